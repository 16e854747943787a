import Derived.Test.YtlkggpjdaaglmaaGreatDoorPkR8
import Derived.Deep.RegionHeld3
import Derived.Deep.RegionHeldLaw
import Derived.Deep.RegionLaw
import Derived.WalkSmall
import Derived.OwnWalk
import Derived.BigQuiet
import Derived.Laws.StructEq
import Derived.Lib.AppendIntMem
import Derived.Laws.IdiomStrings
import Derived.Lib.ItoaLen
import Derived.Test.YtlkggpjdaaglmaaGreatDoorPkR5
import Derived.Test.YtlkggpjdaaglmaaGreatDoorPkR7
import Derived.Test.YtlkggpjdaaglmaaGreatDoorPkR3
import Derived.Scope
section
namespace Go.Proofs.YtlkggpjdaaglmaaGreatDoor.am
open Go.ChangeShapes Go.WideShapes Go.ChangeAt Go.RowKit
open vt
set_option linter.unusedVariables false
set_option linter.unusedSimpArgs false
theorem op_hit {n : Int} {l k : Nat} {y : Sg} (h1 : 1 ≤ l) (h5 : l ≤ 5) (hy : (opsL l)[k]? = some y) (hn : y.2 = n) : opB n = (y.1, (l : Int)) := by
  have hl : l = 1 ∨ l = 2 ∨ l = 3 ∨ l = 4 ∨ l = 5 := by omega
  rcases hl with rfl | rfl | rfl | rfl | rfl
  · match k, hy with
    | 0, hy => cases hy; subst hn; rfl
  · match k, hy with
    | 0, hy => cases hy; subst hn; rfl
  · match k, hy with
    | 0, hy => cases hy; subst hn; rfl
    | 1, hy => cases hy; subst hn; rfl
    | 2, hy => cases hy; subst hn; rfl
    | 3, hy => cases hy; subst hn; rfl
    | 4, hy => cases hy; subst hn; rfl
    | 5, hy => cases hy; subst hn; rfl
  · match k, hy with
    | 0, hy => cases hy; subst hn; rfl
    | 1, hy => cases hy; subst hn; rfl
  · match k, hy with
    | 0, hy => cases hy; subst hn; rfl
    | 1, hy => cases hy; subst hn; rfl
    | 2, hy => cases hy; subst hn; rfl
theorem op_some {n : Int} (h1 : 1 ≤ n) (h2 : n ≤ 13) : ∃ (l k : Nat) (y : Sg), 1 ≤ l ∧ l ≤ 5 ∧ (opsL l)[k]? = some y ∧ y.2 = n := by
  have : n = 1 ∨ n = 2 ∨ n = 3 ∨ n = 4 ∨ n = 5 ∨ n = 6 ∨ n = 7 ∨ n = 8 ∨ n = 9 ∨ n = 10 ∨ n = 11 ∨ n = 12 ∨ n = 13 := by omega
  rcases this with rfl | rfl | rfl | rfl | rfl | rfl | rfl | rfl | rfl | rfl | rfl | rfl | rfl
  · exact ⟨1, 0, _, by decide, by decide, rfl, rfl⟩
  · exact ⟨2, 0, _, by decide, by decide, rfl, rfl⟩
  · exact ⟨3, 0, _, by decide, by decide, rfl, rfl⟩
  · exact ⟨3, 1, _, by decide, by decide, rfl, rfl⟩
  · exact ⟨3, 2, _, by decide, by decide, rfl, rfl⟩
  · exact ⟨3, 3, _, by decide, by decide, rfl, rfl⟩
  · exact ⟨3, 4, _, by decide, by decide, rfl, rfl⟩
  · exact ⟨3, 5, _, by decide, by decide, rfl, rfl⟩
  · exact ⟨4, 0, _, by decide, by decide, rfl, rfl⟩
  · exact ⟨4, 1, _, by decide, by decide, rfl, rfl⟩
  · exact ⟨5, 0, _, by decide, by decide, rfl, rfl⟩
  · exact ⟨5, 1, _, by decide, by decide, rfl, rfl⟩
  · exact ⟨5, 2, _, by decide, by decide, rfl, rfl⟩
def Nof (n : Int) (l : Nat) : Prop := ∀ (m k : Nat) y, 1 ≤ m → m < l → (opsL m)[k]? = some y → y.2 ≠ n
theorem nof_next {n : Int} {l : Nat} (h : Nof n l) (hk : ∀ (j : Nat) y, (opsL l)[j]? = some y → j < (opsL l).length → y.2 ≠ n) : Nof n (l + 1) := fun m k y h1 h2 hy => by
  by_cases e : m = l
  · subst e; exact hk k y hy (List.getElem?_eq_some_iff.1 hy).1
  · exact h m k y h1 (by omega) hy
theorem ops_len (l : Nat) : (opsL l).length ≤ 6 := by
  unfold opsL
  split <;> simp
set_option maxRecDepth 100000 in
set_option maxHeartbeats 4000000 in
theorem rsign_row (n : Int) (h1 : 1 ≤ n) (h2 : n ≤ 13) : Row Tryz.prog 89 [vI n] [] (vS (opB n).1) [] := by
  refine row_of Tryz.func89 rfl rfl (Nat.le_of_ble_eq_true rfl) ?_
  repeat (first | refine aw_seq ?_ | refine aw_skip ?_ | refine aw_block ?_ | refine aw_exit ?_ | refine aw_cond rfl (fun _ => ?_) (fun hb => absurd hb (by decide)) | refine aw_cond rfl (fun hb => absurd hb (by decide)) (fun _ => ?_) | (refine aw_reg (fun K hK => ?_); simp -implicitDefEqProofs; refine hK _ ?_) | (refine aw_drw mixd (fun K hK => ?_); simp -implicitDefEqProofs; refine hK _ _ (by rfl) ?_) | fail)
  refine aw_lp (ι := Nat) (fun l => mkSt [(0, vI n), (3, vI (l : Nat))] []) (fun l => 1 ≤ l ∧ l ≤ 6 ∧ Nof n l) (fun l => 6 - l) 1 ⟨by decide, by decide, fun m k y a b => by omega⟩ (cov_intro [] (by simp -implicitDefEqProofs) (by simp -implicitDefEqProofs) (by decide) rfl (by simp)) (fun Z hI l hl => ?_)
  obtain ⟨hl1, hl6, hno⟩ := hl
  by_cases hl5 : l ≤ 5; rotate_left
  · exfalso
    obtain ⟨m, k, y, a, b, c, d⟩ := op_some h1 h2
    exact hno m k y a (by omega) c d
  have hl' : (l : Int) < 6 := by omega
  have e := ops_row l hl1 hl5
  have hlen := ops_len l
  have w1 : IntKind.i64.wrap ((l : Nat) + 1 : Int) = (l : Nat) + 1 := i64i _ (by omega) (by omega)
  repeat' (first | refine aw_seq ?_ | refine aw_skip ?_ | refine aw_block ?_ | refine aw_exit ?_ | refine aw_cond rfl (fun _ => ?_) (fun hb => absurd hb (by decide)) | refine aw_cond rfl (fun hb => absurd hb (by decide)) (fun _ => ?_) | (refine aw_reg (fun K hK => ?_); simp -implicitDefEqProofs [hl']) | (refine aw_drw mixd (fun K hK => ?_); simp -implicitDefEqProofs [hl']) | refine hK _ ?_ | refine hK _ _ (by rfl) ?_ | (refine ar_call (cp e ?_); simp -implicitDefEqProofs [hl']) | (refine ard_call (dp e ?_); simp -implicitDefEqProofs [hl']) | fail)
  refine aw_lp (ι := Nat) (fun k => mkSt [(0, vI n), (3, vI (l : Nat)), (4, .v (.c (.pv (.sl 1 ((opsL l).map pS))))), (5, .v (.c (.pv (.sl 1 ((opsL l).map pI))))), (6, vI (k : Nat))] []) (fun k => k ≤ (opsL l).length ∧ ∀ (j : Nat) y, (opsL l)[j]? = some y → j < k → y.2 ≠ n) (fun k => (opsL l).length - k) 0 ⟨Nat.zero_le _, fun j y _ h => by omega⟩ (cov_intro [] (by simp -implicitDefEqProofs) (by simp -implicitDefEqProofs) (by decide) rfl (by simp)) (fun Z' hI' k hk => ?_)
  obtain ⟨hk1, hk2⟩ := hk
  have w2 : IntKind.i64.wrap ((k : Nat) + 1 : Int) = (k : Nat) + 1 := i64i _ (by omega) (by omega)
  by_cases hkl : k < (opsL l).length; rotate_left
  · have hke : k = (opsL l).length := by omega
    subst hke
    repeat (first | refine aw_seq ?_ | refine aw_skip ?_ | refine aw_block ?_ | refine aw_exit ?_ | refine aw_cond rfl (fun _ => ?_) (fun hb => absurd hb (by decide)) | refine aw_cond rfl (fun hb => absurd hb (by decide)) (fun _ => ?_) | (refine aw_reg (fun K hK => ?_); simp -implicitDefEqProofs [w1]; refine hK _ ?_) | (refine aw_drw mixd (fun K hK => ?_); simp -implicitDefEqProofs [w1]; refine hK _ _ (by rfl) ?_) | fail)
    refine ⟨l + 1, ⟨by omega, by omega, nof_next hno hk2⟩, (by dsimp only; omega), ?_⟩; rw [hI]; exact cov_intro [] (by simp -implicitDefEqProofs) (by simp -implicitDefEqProofs) (by decide) rfl (by simp)
  obtain ⟨y, hy⟩ : ∃ a, (opsL l)[k]? = some a := ⟨_, List.getElem?_eq_getElem hkl⟩
  have hy' := (List.getElem?_eq_some_iff.1 hy).2
  by_cases c : y.2 = n
  · have q := op_hit hl1 hl5 hy c
    rw [q]
    repeat (first | refine aw_seq ?_ | refine aw_skip ?_ | refine aw_block ?_ | refine aw_exit ?_ | refine aw_cond rfl (fun _ => ?_) (fun hb => absurd hb (by decide)) | refine aw_cond rfl (fun hb => absurd hb (by decide)) (fun _ => ?_) | (refine aw_reg (fun K hK => ?_); simp -implicitDefEqProofs [hkl, hy, hy', c]; refine hK _ ?_) | (refine aw_drw mixd (fun K hK => ?_); simp -implicitDefEqProofs [hkl, hy, hy', c]; refine hK _ _ (by rfl) ?_) | fail)
    refine aw_ret (fin_ret ?_); simp -implicitDefEqProofs [FinP, resV, resT] <;> try rfl
  · repeat (first | refine aw_seq ?_ | refine aw_skip ?_ | refine aw_block ?_ | refine aw_exit ?_ | refine aw_cond rfl (fun _ => ?_) (fun hb => absurd hb (by decide)) | refine aw_cond rfl (fun hb => absurd hb (by decide)) (fun _ => ?_) | (refine aw_reg (fun K hK => ?_); simp -implicitDefEqProofs [hkl, hy, hy', c, w2]; refine hK _ ?_) | (refine aw_drw mixd (fun K hK => ?_); simp -implicitDefEqProofs [hkl, hy, hy', c, w2]; refine hK _ _ (by rfl) ?_) | fail)
    refine ⟨k + 1, ⟨by omega, fun j z hz hj => ?_⟩, (by dsimp only; omega), ?_⟩
    · by_cases e : j = k
      · subst e; rw [hy] at hz; cases hz; exact c
      · exact hk2 j z hz (by omega)
    rw [hI']; exact cov_intro [] (by simp -implicitDefEqProofs) (by simp -implicitDefEqProofs) (by decide) rfl (by simp)
set_option maxRecDepth 100000 in
set_option maxHeartbeats 4000000 in
theorem rbinds_row (x : Lab) (l : List VT) (hx : x.k = 10 → 1 ≤ x.n ∧ x.n ≤ 13) : Row Tryz.prog 87 [vT (.mk x l)] [] (vI (tgh x)) [] := by
  obtain ⟨xk, xn, xs, xf, xt⟩ := x
  by_cases c1 : xk = 11
  · have t : tgh ⟨xk, xn, xs, xf, xt⟩ = 6 := by unfold tgh; rw [if_neg (by dsimp only; omega), if_pos c1]
    rw [t]
    refine row_of Tryz.func87 rfl rfl (Nat.le_of_ble_eq_true rfl) ?_
    repeat (first | refine aw_seq ?_ | refine aw_skip ?_ | refine aw_block ?_ | refine aw_exit ?_ | refine aw_cond rfl (fun _ => ?_) (fun hb => absurd hb (by decide)) | refine aw_cond rfl (fun hb => absurd hb (by decide)) (fun _ => ?_) | (refine aw_reg (fun K hK => ?_); simp -implicitDefEqProofs [c1]; refine hK _ ?_) | (refine aw_drw mixd (fun K hK => ?_); simp -implicitDefEqProofs [c1]; refine hK _ _ (by rfl) ?_) | fail)
    refine aw_ret (fin_ret ?_); simp -implicitDefEqProofs [FinP, resV, resT] <;> try rfl
  by_cases c2 : xk = 10; rotate_left
  · have t : tgh ⟨xk, xn, xs, xf, xt⟩ = 7 := by unfold tgh; rw [if_neg c2, if_neg c1]
    rw [t]
    refine row_of Tryz.func87 rfl rfl (Nat.le_of_ble_eq_true rfl) ?_
    repeat (first | refine aw_seq ?_ | refine aw_skip ?_ | refine aw_block ?_ | refine aw_exit ?_ | refine aw_cond rfl (fun _ => ?_) (fun hb => absurd hb (by decide)) | refine aw_cond rfl (fun hb => absurd hb (by decide)) (fun _ => ?_) | (refine aw_reg (fun K hK => ?_); simp -implicitDefEqProofs [c1, c2]; refine hK _ ?_) | (refine aw_drw mixd (fun K hK => ?_); simp -implicitDefEqProofs [c1, c2]; refine hK _ _ (by rfl) ?_) | fail)
    refine aw_ret (fin_ret ?_); simp -implicitDefEqProofs [FinP, resV, resT] <;> try rfl
  have t : tgh ⟨xk, xn, xs, xf, xt⟩ = (opB xn).2 := by unfold tgh; rw [if_pos c2]
  obtain ⟨h1, h2⟩ := hx c2
  dsimp only at h1 h2
  rw [t]
  refine row_of Tryz.func87 rfl rfl (Nat.le_of_ble_eq_true rfl) ?_
  repeat (first | refine aw_seq ?_ | refine aw_skip ?_ | refine aw_block ?_ | refine aw_exit ?_ | refine aw_cond rfl (fun _ => ?_) (fun hb => absurd hb (by decide)) | refine aw_cond rfl (fun hb => absurd hb (by decide)) (fun _ => ?_) | (refine aw_reg (fun K hK => ?_); simp -implicitDefEqProofs [c1, c2]; refine hK _ ?_) | (refine aw_drw mixd (fun K hK => ?_); simp -implicitDefEqProofs [c1, c2]; refine hK _ _ (by rfl) ?_) | fail)
  refine aw_lp (ι := Nat) (fun l' => mkSt [(1, .v (.c (.ptr 0 0))), (3, vI (l' : Nat))] [some (.box (ta (.mk ⟨xk, xn, xs, xf, xt⟩ l)))]) (fun l => 1 ≤ l ∧ l ≤ 6 ∧ Nof xn l) (fun l => 6 - l) 1 ⟨by decide, by decide, fun m k y a b => by omega⟩ (cov_intro [0] (by simp -implicitDefEqProofs [c2]) (by simp -implicitDefEqProofs [c2]) (by decide) rfl (by simp)) (fun Z hI l' hl => ?_)
  obtain ⟨hl1, hl6, hno⟩ := hl
  by_cases hl5 : l' ≤ 5; rotate_left
  · exfalso
    obtain ⟨m, k, y, a, b, c, d⟩ := op_some h1 h2
    exact hno m k y a (by omega) c d
  have hl' : (l' : Int) < 6 := by omega
  have e := ops_row l' hl1 hl5
  have hlen := ops_len l'
  have w1 : IntKind.i64.wrap ((l' : Nat) + 1 : Int) = (l' : Nat) + 1 := i64i _ (by omega) (by omega)
  repeat' (first | refine aw_seq ?_ | refine aw_skip ?_ | refine aw_block ?_ | refine aw_exit ?_ | refine aw_cond rfl (fun _ => ?_) (fun hb => absurd hb (by decide)) | refine aw_cond rfl (fun hb => absurd hb (by decide)) (fun _ => ?_) | (refine aw_reg (fun K hK => ?_); simp -implicitDefEqProofs [hl']) | (refine aw_drw mixd (fun K hK => ?_); simp -implicitDefEqProofs [hl']) | refine hK _ ?_ | refine hK _ _ (by rfl) ?_ | (refine ar_call (cp e ?_); simp -implicitDefEqProofs [hl']) | (refine ard_call (dp e ?_); simp -implicitDefEqProofs [hl']) | fail)
  refine aw_lp (ι := Nat) (fun k => mkSt [(1, .v (.c (.ptr 0 0))), (3, vI (l' : Nat)), (5, .v (.c (.pv (.sl 1 ((opsL l').map pI))))), (6, vI (k : Nat))] [some (.box (ta (.mk ⟨xk, xn, xs, xf, xt⟩ l)))]) (fun k => k ≤ (opsL l').length ∧ ∀ (j : Nat) y, (opsL l')[j]? = some y → j < k → y.2 ≠ xn) (fun k => (opsL l').length - k) 0 ⟨Nat.zero_le _, fun j y _ h => by omega⟩ (cov_intro [0] (by simp -implicitDefEqProofs) (by simp -implicitDefEqProofs) (by decide) rfl (by simp)) (fun Z' hI' k hk => ?_)
  obtain ⟨hk1, hk2⟩ := hk
  have w2 : IntKind.i64.wrap ((k : Nat) + 1 : Int) = (k : Nat) + 1 := i64i _ (by omega) (by omega)
  by_cases hkl : k < (opsL l').length; rotate_left
  · have hke : k = (opsL l').length := by omega
    subst hke
    repeat (first | refine aw_seq ?_ | refine aw_skip ?_ | refine aw_block ?_ | refine aw_exit ?_ | refine aw_cond rfl (fun _ => ?_) (fun hb => absurd hb (by decide)) | refine aw_cond rfl (fun hb => absurd hb (by decide)) (fun _ => ?_) | (refine aw_reg (fun K hK => ?_); simp -implicitDefEqProofs [w1]; refine hK _ ?_) | (refine aw_drw mixd (fun K hK => ?_); simp -implicitDefEqProofs [w1]; refine hK _ _ (by rfl) ?_) | fail)
    refine ⟨l' + 1, ⟨by omega, by omega, nof_next hno hk2⟩, (by dsimp only; omega), ?_⟩; rw [hI]; exact cov_intro [0] (by simp -implicitDefEqProofs) (by simp -implicitDefEqProofs) (by decide) rfl (by simp)
  obtain ⟨y, hy⟩ : ∃ a, (opsL l')[k]? = some a := ⟨_, List.getElem?_eq_getElem hkl⟩
  have hy' := (List.getElem?_eq_some_iff.1 hy).2
  by_cases c : y.2 = xn
  · have q := op_hit hl1 hl5 hy c
    rw [q]
    repeat (first | refine aw_seq ?_ | refine aw_skip ?_ | refine aw_block ?_ | refine aw_exit ?_ | refine aw_cond rfl (fun _ => ?_) (fun hb => absurd hb (by decide)) | refine aw_cond rfl (fun hb => absurd hb (by decide)) (fun _ => ?_) | (refine aw_reg (fun K hK => ?_); simp -implicitDefEqProofs [hkl, hy, hy', c]; refine hK _ ?_) | (refine aw_drw mixd (fun K hK => ?_); simp -implicitDefEqProofs [hkl, hy, hy', c]; refine hK _ _ (by rfl) ?_) | fail)
    refine aw_ret (fin_ret ?_); simp -implicitDefEqProofs [FinP, resV, resT] <;> try rfl
  · repeat (first | refine aw_seq ?_ | refine aw_skip ?_ | refine aw_block ?_ | refine aw_exit ?_ | refine aw_cond rfl (fun _ => ?_) (fun hb => absurd hb (by decide)) | refine aw_cond rfl (fun hb => absurd hb (by decide)) (fun _ => ?_) | (refine aw_reg (fun K hK => ?_); simp -implicitDefEqProofs [hkl, hy, hy', c, w2]; refine hK _ ?_) | (refine aw_drw mixd (fun K hK => ?_); simp -implicitDefEqProofs [hkl, hy, hy', c, w2]; refine hK _ _ (by rfl) ?_) | fail)
    refine ⟨k + 1, ⟨by omega, fun j z hz hj => ?_⟩, (by dsimp only; omega), ?_⟩
    · by_cases e : j = k
      · subst e; rw [hy] at hz; cases hz; exact c
      · exact hk2 j z hz (by omega)
    rw [hI']; exact cov_intro [0] (by simp -implicitDefEqProofs) (by simp -implicitDefEqProofs) (by decide) rfl (by simp)
end Go.Proofs.YtlkggpjdaaglmaaGreatDoor.am
end
section
namespace Go.Proofs.YtlkggpjdaaglmaaGreatDoor.lx
open Go.ChangeShapes Go.WideShapes Go.ChangeAt Go.RowKit
open bs
set_option linter.unusedVariables false
def StQ (v : ByteArray) (w : World) (e : Ending) (w' : World) : Prop := e = .returned (.string v) ∧ Below w.heap.size w w'
theorem one_text (d : Nat) (hd : d < 256) (W : World) (B0 : Nat) (hc : W.cell? ⟨B0, 0, none⟩ = some (.int .u8 d)) : (convert 42 9 (.slice (some ⟨B0, 0, none⟩) 1 1)).run Tryz.prog W = .ok (.string (mkB [UInt8.ofNat d])) W := by
  have h := run_convert_bytes_back (P := Tryz.prog) W 42 9 5 ⟨B0, 0, none⟩ 1 [UInt8.ofNat d] Tryz.underlying42 Tryz.underlying5 Tryz.underlying9 (fun j hj => by
    have hj0 : j = 0 := by simpa using hj
    subst hj0
    show W.cell? ((⟨B0, 0, none⟩ : Addr).add 0) = _
    have e : (⟨B0, 0, none⟩ : Addr).add 0 = ⟨B0, 0, none⟩ := by unfold Addr.add; split <;> simp_all
    rw [e, hc]
    congr 2
    show (d : Int) = ((UInt8.ofNat d).toNat : Int)
    rw [UInt8.toNat_ofNat']
    omega)
  exact h
theorem numT_one {u : Nat} (h : u < 10) : numT (u : Int) = mkB [UInt8.ofNat (48 + u)] := by rw [numT_nat, dec_small h]
theorem mk_app (l m : List UInt8) : mkB (l ++ m) = mkB l ++ mkB m := by
  unfold mkB
  apply ByteArray.ext
  simp
theorem numT_more {u : Nat} (h : ¬ u < 10) : numT (u : Int) = numT ((u / 10 : Nat) : Int) ++ mkB [UInt8.ofNat (48 + u % 10)] := by rw [numT_nat, dec_big h, mk_app, numT_nat]
theorem numT_neg1 {u : Nat} (h0 : 1 ≤ u) (h : u < 10) : numT (-(u : Int)) = mkB [45] ++ mkB [UInt8.ofNat (48 + u)] := by
  unfold numT
  rw [Lib.itoa_neg u h0, dec_small h, ← mk_app]
  rfl
theorem numT_neg2 {u : Nat} (h : ¬ u < 10) : numT (-(u : Int)) = numT (-((u / 10 : Nat) : Int)) ++ mkB [UInt8.ofNat (48 + u % 10)] := by
  unfold numT
  rw [Lib.itoa_neg u (by omega), Lib.itoa_neg (u / 10) (by omega), dec_big h, ← mk_app]
  rfl
theorem one_text' (w : World) (z : Int) (d : Nat) (hz : z = (d : Int)) (hd : d < 256) : (convert 42 9 (.slice (some ⟨w.heap.size, 0, none⟩) 1 1)).run Tryz.prog (w.alloc (.cells #[.int .u8 z] 5)) = .ok (.string (mkB [UInt8.ofNat d])) (w.alloc (.cells #[.int .u8 z] 5)) := by
  subst hz
  exact one_text d hd _ _ (cell_new w _ _ _ _ rfl)
set_option maxRecDepth 100000 in
set_option maxHeartbeats 8000000 in
theorem rdigits_own (N : Nat) : ∀ (n : Int) (w : World), n.natAbs ≤ N → -9223372036854775808 ≤ n → n ≤ 9223372036854775807 → Calls Tryz.prog 86 #[.int .i64 n] w (StQ (numT n) w) := by
  induction N using Nat.strongRecOn with
  | _ N ih =>
  intro n w hN h0 h1
  by_cases hneg : n < 0
  · obtain ⟨u, rfl⟩ : ∃ u : Nat, n = -(u : Int) := ⟨n.natAbs, by omega⟩
    have hu : 1 ≤ u := by omega
    have d0 : decide (-(u : Int) < 0) = true := decide_eq_true hneg
    by_cases hs : u < 10
    · have HE := Lib.hid (numT_neg1 hu hs)
      have hcv := one_text' w (48 + (u : Int)) (48 + u) (by omega) (by omega)
      have HW := Lib.hid ((Below.refl w.heap.size w).alloc (Nat.le_refl _) (.cells #[.int .u8 (48 + (u : Int))] 5))
      have hz1 : (mkB [UInt8.ofNat (48 + u)]).size = 1 := mk_size _
      obtain ⟨T, hT⟩ : ∃ T, mkB [UInt8.ofNat (48 + u)] = T := ⟨_, rfl⟩
      rw [hT] at HE hcv hz1
      clear hT
      go_enter Tryz.func86, Tryz.ntmps86
      go_wp2
      go_ret
      refine ⟨?_, HW.out⟩
      rw [HE.out]
      rfl
    · have d1 : decide ((-10 : Int) < -(u : Int)) = false := decide_eq_false (by omega)
      have HE := Lib.hid (numT_neg2 hs)
      have hq : IntKind.i64.wrap (-((u : Int) / 10)) = (-((u / 10 : Nat) : Int)) := by rw [IntWalk.i64_in _ (by omega)]; omega
      have hr : (u : Int).tmod 10 = ((u % 10 : Nat) : Int) := by rw [Int.tmod_eq_emod_of_nonneg (by omega)]; omega
      have hw1 : IntKind.i64.wrap (48 + ((u % 10 : Nat) : Int)) = ((48 + u % 10 : Nat) : Int) := by rw [IntWalk.i64_in _ (by omega)]; omega
      have hw2 : IntKind.u8.wrap ((48 + u % 10 : Nat) : Int) = ((48 + u % 10 : Nat) : Int) := by rw [IntKind.wrap_u8]; omega
      have hd : 48 + u % 10 < 256 := by omega
      have hih := fun V => ih (N - 1) (by omega) (-((u / 10 : Nat) : Int)) V (by omega) (by omega) (by omega)
      obtain ⟨D, hD⟩ : ∃ D, 48 + u % 10 = D := ⟨_, rfl⟩
      rw [hD] at hw1 hw2 hd HE
      obtain ⟨R, hR⟩ : ∃ R, ((u % 10 : Nat) : Int) = R := ⟨_, rfl⟩
      rw [hR] at hr hw1
      obtain ⟨Q, hQ⟩ : ∃ Q, (-((u / 10 : Nat) : Int)) = Q := ⟨_, rfl⟩
      rw [hQ] at hq HE hih
      have hsz : (numT Q).size ≤ 21 := by
        unfold numT
        rw [mk_size]
        exact Lib.itoa_length_le Q (by omega) (by omega)
      obtain ⟨P, hP⟩ : ∃ P, numT Q = P := ⟨_, rfl⟩
      rw [hP] at HE hih hsz
      have cv1 := fun V : World => one_text' V (D : Int) D rfl hd
      have cv2 := fun (W : World) B0 => one_text D hd W B0
      have hT1 : (mkB [UInt8.ofNat D]).size = 1 := mk_size _
      obtain ⟨T, hT⟩ : ∃ T, mkB [UInt8.ofNat D] = T := ⟨_, rfl⟩
      rw [hT] at HE cv1 cv2 hT1
      have a1 : ¬ 9223372036854775807 < P.size + T.size := by omega
      have a2 : ¬ 9223372036854775807 < P.size + 1 := by omega
      have HIH := Lib.hid hih
      have CV1 := Lib.hid cv1; have CV2 := Lib.hid cv2
      have HBD : Hid (Below w.heap.size w w.drew) := Lib.hid (Below.drew (Below.refl _ _))
      have HBA : Hid (Below w.heap.size w (w.drew.alloc (.cells #[.int .u8 (D : Int)] 5))) := Lib.hid (HBD.out.alloc (Nat.le_refl _) _)
      have k2 := CV1.out w.drew
      have c2 : (w.drew.alloc (.cells #[.int .u8 (D : Int)] 5)).cell? ⟨w.heap.size, 0, none⟩ = some (.int .u8 (D : Int)) := cell_new w.drew _ _ _ _ rfl
      have HBB : Hid (Below w.heap.size w ((w.alloc (.cells #[.int .u8 (D : Int)] 5)).drew)) := Lib.hid (Below.drew ((Below.refl _ _).alloc (Nat.le_refl _) _))
      have k4 := CV1.out w
      have c3 : ((w.alloc (.cells #[.int .u8 (D : Int)] 5)).drew).cell? ⟨w.heap.size, 0, none⟩ = some (.int .u8 (D : Int)) := cell_new w _ _ _ _ rfl
      have C3 := Lib.hid c3
      have k5 := CV2.out _ _ c3
      clear c3
      have C2 := Lib.hid c2
      clear hih hsz hd hD hR hQ hP hT hN h0 h1 cv1 cv2 ih c2
      go_enter Tryz.func86, Tryz.ntmps86
      go_wp2_with fail
      go_region_law
        (go_simp; go_at_call 86; first
          | ((with_reducible refine (HIH.out w.drew).mono ?_); rintro e w2 ⟨rfl, hb2⟩; have k1 := CV1.out w2; have HBX : Hid (Below w.heap.size w (w2.alloc (.cells #[.int .u8 (D : Int)] 5))) := Lib.hid ((HBD.out.trans hb2).alloc hb2.size _); clear hb2)
          | ((with_reducible refine (HIH.out ((w.alloc (.cells #[.int .u8 (D : Int)] 5)).drew)).mono ?_); rintro e w2 ⟨rfl, hb2⟩; have k3 := CV2.out w2 w.heap.size (by rw [hb2.cell (p := ⟨w.heap.size, 0, none⟩) (by simp only [World.size_drew, World.size_alloc]; show w.heap.size < w.heap.size + 1; omega)]; exact C3.out); have HBX : Hid (Below w.heap.size w w2) := Lib.hid (HBB.out.trans (hb2.mono HBB.out.size)); clear hb2)
          | ((with_reducible refine (HIH.out (w.drew.alloc (.cells #[.int .u8 (D : Int)] 5))).mono ?_); rintro e w2 ⟨rfl, hb2⟩; have k3 := CV2.out w2 w.heap.size (by rw [hb2.cell (p := ⟨w.heap.size, 0, none⟩) (by simp only [World.size_alloc, World.size_drew]; show w.heap.size < w.heap.size + 1; omega)]; exact C2.out); have HBX : Hid (Below w.heap.size w w2) := Lib.hid (HBA.out.trans (hb2.mono HBA.out.size)); clear hb2))
      all_goals
        go_wp2
        go_ret
        refine ⟨?_, HBX.out⟩
        rw [HE.out]
        rfl
  · obtain ⟨u, rfl⟩ : ∃ u : Nat, n = (u : Int) := ⟨n.toNat, by omega⟩
    have d0 : decide ((u : Int) < 0) = false := decide_eq_false hneg
    by_cases hs : u < 10
    · have d1 : decide ((u : Int) < 10) = true := decide_eq_true (by omega)
      have HE := Lib.hid (numT_one hs)
      have hcv := one_text' w (48 + (u : Int)) (48 + u) (by omega) (by omega)
      have HW := Lib.hid ((Below.refl w.heap.size w).alloc (Nat.le_refl _) (.cells #[.int .u8 (48 + (u : Int))] 5))
      obtain ⟨T, hT⟩ : ∃ T, mkB [UInt8.ofNat (48 + u)] = T := ⟨_, rfl⟩
      rw [hT] at HE hcv
      clear hT
      go_enter Tryz.func86, Tryz.ntmps86
      go_wp2
      go_ret
      refine ⟨?_, HW.out⟩
      rw [HE.out]
      rfl
    · have d1 : decide ((u : Int) < 10) = false := decide_eq_false (by omega)
      have HE := Lib.hid (numT_more hs)
      have hq : IntKind.i64.wrap ((u : Int) / 10) = ((u / 10 : Nat) : Int) := by rw [IntWalk.i64_in _ (by omega)]; omega
      have hr : (u : Int).tmod 10 = ((u % 10 : Nat) : Int) := by rw [Int.tmod_eq_emod_of_nonneg (by omega)]; omega
      have hw1 : IntKind.i64.wrap (48 + ((u % 10 : Nat) : Int)) = ((48 + u % 10 : Nat) : Int) := by rw [IntWalk.i64_in _ (by omega)]; omega
      have hw2 : IntKind.u8.wrap ((48 + u % 10 : Nat) : Int) = ((48 + u % 10 : Nat) : Int) := by rw [IntKind.wrap_u8]; omega
      have hd : 48 + u % 10 < 256 := by omega
      have hih := fun V => ih (N - 1) (by omega) ((u / 10 : Nat) : Int) V (by omega) (by omega) (by omega)
      obtain ⟨D, hD⟩ : ∃ D, 48 + u % 10 = D := ⟨_, rfl⟩
      rw [hD] at hw1 hw2 hd HE
      obtain ⟨R, hR⟩ : ∃ R, ((u % 10 : Nat) : Int) = R := ⟨_, rfl⟩
      rw [hR] at hr hw1
      obtain ⟨Q, hQ⟩ : ∃ Q, ((u / 10 : Nat) : Int) = Q := ⟨_, rfl⟩
      rw [hQ] at hq HE hih
      have hsz : (numT Q).size ≤ 21 := by
        unfold numT
        rw [mk_size]
        exact Lib.itoa_length_le Q (by omega) (by omega)
      obtain ⟨P, hP⟩ : ∃ P, numT Q = P := ⟨_, rfl⟩
      rw [hP] at HE hih hsz
      have cv1 := fun V : World => one_text' V (D : Int) D rfl hd
      have cv2 := fun (W : World) B0 => one_text D hd W B0
      have hT1 : (mkB [UInt8.ofNat D]).size = 1 := mk_size _
      obtain ⟨T, hT⟩ : ∃ T, mkB [UInt8.ofNat D] = T := ⟨_, rfl⟩
      rw [hT] at HE cv1 cv2 hT1
      have a1 : ¬ 9223372036854775807 < P.size + T.size := by omega
      have a2 : ¬ 9223372036854775807 < P.size + 1 := by omega
      have HIH := Lib.hid hih
      have CV1 := Lib.hid cv1; have CV2 := Lib.hid cv2
      have HBD : Hid (Below w.heap.size w w.drew) := Lib.hid (Below.drew (Below.refl _ _))
      have HBA : Hid (Below w.heap.size w (w.drew.alloc (.cells #[.int .u8 (D : Int)] 5))) := Lib.hid (HBD.out.alloc (Nat.le_refl _) _)
      have k2 := CV1.out w.drew
      have c2 : (w.drew.alloc (.cells #[.int .u8 (D : Int)] 5)).cell? ⟨w.heap.size, 0, none⟩ = some (.int .u8 (D : Int)) := cell_new w.drew _ _ _ _ rfl
      have HBB : Hid (Below w.heap.size w ((w.alloc (.cells #[.int .u8 (D : Int)] 5)).drew)) := Lib.hid (Below.drew ((Below.refl _ _).alloc (Nat.le_refl _) _))
      have k4 := CV1.out w
      have c3 : ((w.alloc (.cells #[.int .u8 (D : Int)] 5)).drew).cell? ⟨w.heap.size, 0, none⟩ = some (.int .u8 (D : Int)) := cell_new w _ _ _ _ rfl
      have C3 := Lib.hid c3
      have k5 := CV2.out _ _ c3
      clear c3
      have C2 := Lib.hid c2
      clear hih hsz hd hD hR hQ hP hT hN h0 h1 cv1 cv2 ih c2
      go_enter Tryz.func86, Tryz.ntmps86
      go_wp2_with fail
      go_region_law
        (go_simp; go_at_call 86; first
          | ((with_reducible refine (HIH.out w.drew).mono ?_); rintro e w2 ⟨rfl, hb2⟩; have k1 := CV1.out w2; have HBX : Hid (Below w.heap.size w (w2.alloc (.cells #[.int .u8 (D : Int)] 5))) := Lib.hid ((HBD.out.trans hb2).alloc hb2.size _); clear hb2)
          | ((with_reducible refine (HIH.out ((w.alloc (.cells #[.int .u8 (D : Int)] 5)).drew)).mono ?_); rintro e w2 ⟨rfl, hb2⟩; have k3 := CV2.out w2 w.heap.size (by rw [hb2.cell (p := ⟨w.heap.size, 0, none⟩) (by simp only [World.size_drew, World.size_alloc]; show w.heap.size < w.heap.size + 1; omega)]; exact C3.out); have HBX : Hid (Below w.heap.size w w2) := Lib.hid (HBB.out.trans (hb2.mono HBB.out.size)); clear hb2)
          | ((with_reducible refine (HIH.out (w.drew.alloc (.cells #[.int .u8 (D : Int)] 5))).mono ?_); rintro e w2 ⟨rfl, hb2⟩; have k3 := CV2.out w2 w.heap.size (by rw [hb2.cell (p := ⟨w.heap.size, 0, none⟩) (by simp only [World.size_alloc, World.size_drew]; show w.heap.size < w.heap.size + 1; omega)]; exact C2.out); have HBX : Hid (Below w.heap.size w w2) := Lib.hid (HBA.out.trans (hb2.mono HBA.out.size)); clear hb2))
      all_goals
        go_wp2
        go_ret
        refine ⟨?_, HBX.out⟩
        rw [HE.out]
        rfl
end Go.Proofs.YtlkggpjdaaglmaaGreatDoor.lx
end
section
namespace Go.Proofs.YtlkggpjdaaglmaaGreatDoor.am
open Go.ChangeShapes Go.WideShapes Go.ChangeAt Go.RowKit
open vt
set_option linter.unusedVariables false
set_option linter.unusedSimpArgs false
theorem rdigit_row (n : Int) (h0 : -9223372036854775808 ≤ n) (h1 : n ≤ 9223372036854775807) : Row Tryz.prog 86 [vI n] [] (vS (wNum n)) [] := by
  refine ⟨⟨_, Tryz.func86, rfl, rfl⟩, spec_of_below (ch := []) fun γ S w vs hm hv => ?_⟩
  match vs, hv with
  | [v0], ⟨k0, _⟩ =>
    obtain ⟨rfl, _⟩ := lit_inv k0
    refine (lx.rdigits_own n.natAbs n w (Nat.le_refl _) h0 h1).mono ?_
    rintro e w' ⟨rfl, hb⟩
    exact ⟨_, rfl, hb, .lit _ rfl⟩
theorem app_lit (a b : List UInt8) : (⟨a.toArray⟩ : ByteArray) ++ ⟨b.toArray⟩ = ⟨(a ++ b).toArray⟩ := (mkB_app a b).symm
theorem app_lit2 (a b : List UInt8) (X : ByteArray) : (⟨a.toArray⟩ : ByteArray) ++ (⟨b.toArray⟩ ++ X) = ⟨(a ++ b).toArray⟩ ++ X := by rw [← ByteArray.append_assoc, app_lit a b]
theorem wt_ne {t : VT} {W : List ByteArray} (h : WT t W) : W ≠ [] := by cases h <;> simp
set_option maxRecDepth 100000 in
set_option maxHeartbeats 4000000 in
theorem rprty_row {t : VT} {W : List ByteArray} (hW : WT t W) : (J W).size ≤ 1000000000 → Row Tryz.prog 49 [vT t] [] (vS (J W)) [] := by
  induction hW with
  | int x h =>
    intro hs
    rw [J_one]
    refine row_of Tryz.func49 rfl rfl (Nat.le_of_ble_eq_true rfl) ?_
    repeat (first | refine aw_seq ?_ | refine aw_skip ?_ | refine aw_block ?_ | refine aw_exit ?_ | refine aw_cond rfl (fun _ => ?_) (fun hb => absurd hb (by decide)) | refine aw_cond rfl (fun hb => absurd hb (by decide)) (fun _ => ?_) | (refine aw_reg (fun K hK => ?_); simp -implicitDefEqProofs [h]; refine hK _ ?_) | (refine aw_drw mixd (fun K hK => ?_); simp -implicitDefEqProofs [h]; refine hK _ _ (by rfl) ?_) | fail)
    refine aw_ret (fin_ret ?_); simp -implicitDefEqProofs [FinP, resV, resT] <;> try rfl
  | bool x h =>
    intro hs
    rw [J_one]
    refine row_of Tryz.func49 rfl rfl (Nat.le_of_ble_eq_true rfl) ?_
    repeat (first | refine aw_seq ?_ | refine aw_skip ?_ | refine aw_block ?_ | refine aw_exit ?_ | refine aw_cond rfl (fun _ => ?_) (fun hb => absurd hb (by decide)) | refine aw_cond rfl (fun hb => absurd hb (by decide)) (fun _ => ?_) | (refine aw_reg (fun K hK => ?_); simp -implicitDefEqProofs [h]; refine hK _ ?_) | (refine aw_drw mixd (fun K hK => ?_); simp -implicitDefEqProofs [h]; refine hK _ _ (by rfl) ?_) | fail)
    refine aw_ret (fin_ret ?_); simp -implicitDefEqProofs [FinP, resV, resT] <;> try rfl
  | rec' x h hs =>
    intro hs
    rw [J_one]
    refine row_of Tryz.func49 rfl rfl (Nat.le_of_ble_eq_true rfl) ?_
    repeat (first | refine aw_seq ?_ | refine aw_skip ?_ | refine aw_block ?_ | refine aw_exit ?_ | refine aw_cond rfl (fun _ => ?_) (fun hb => absurd hb (by decide)) | refine aw_cond rfl (fun hb => absurd hb (by decide)) (fun _ => ?_) | (refine aw_reg (fun K hK => ?_); simp -implicitDefEqProofs [h]; refine hK _ ?_) | (refine aw_drw mixd (fun K hK => ?_); simp -implicitDefEqProofs [h]; refine hK _ _ (by rfl) ?_) | fail)
    refine aw_ret (fin_ret ?_); simp -implicitDefEqProofs [FinP, resV, resT] <;> try rfl
  | arr x a al A h h0 h1 ha ih =>
    intro hs
    have hA := wt_ne ha
    have q : J ([sOpen] ++ ([wNum x.n] ++ ([sShut] ++ A))) = ⟨#[91, 32]⟩ ++ wNum x.n ++ ⟨#[32, 93, 32]⟩ ++ J A := by
      rw [J_app (by simp) (by simp), J_app (by simp) (by simp), J_app (by simp) hA, J_one, J_one, J_one]
      simp only [ByteArray.append_assoc, app_lit, app_lit2, List.cons_append, List.nil_append]
    rw [q] at hs ⊢
    simp only [ByteArray.size_append] at hs
    have z2 : (⟨#[91, 32]⟩ : ByteArray).size = 2 := rfl
    have z3 : (⟨#[32, 93, 32]⟩ : ByteArray).size = 3 := rfl
    have d := rdigit_row x.n h0 h1
    have e := ih (by omega)
    have b1 : (⟨#[91, 32]⟩ : ByteArray).size + (wNum x.n).size ≤ 9223372036854775807 := by omega
    have b2 : (⟨#[91, 32]⟩ : ByteArray).size + (wNum x.n).size + (⟨#[32, 93, 32]⟩ : ByteArray).size ≤ 9223372036854775807 := by omega
    have b3 : (⟨#[91, 32]⟩ : ByteArray).size + (wNum x.n).size + (⟨#[32, 93, 32]⟩ : ByteArray).size + (J A).size ≤ 9223372036854775807 := by omega
    generalize wNum x.n = D at b1 b2 b3 d ⊢
    refine row_of Tryz.func49 rfl rfl (Nat.le_of_ble_eq_true rfl) ?_
    repeat' (first | refine aw_seq ?_ | refine aw_skip ?_ | refine aw_block ?_ | refine aw_exit ?_ | refine aw_cond rfl (fun _ => ?_) (fun hb => absurd hb (by decide)) | refine aw_cond rfl (fun hb => absurd hb (by decide)) (fun _ => ?_) | (refine aw_reg (fun K hK => ?_); simp -implicitDefEqProofs [h, b1, b2, b3]) | (refine aw_drw mixd (fun K hK => ?_); simp -implicitDefEqProofs [h, b1, b2, b3]) | refine hK _ ?_ | refine hK _ _ (by rfl) ?_ | (refine ar_call (cp d ?_); simp -implicitDefEqProofs [h, b1, b2, b3]) | (refine ard_call (dp d ?_); simp -implicitDefEqProofs [h, b1, b2, b3]) | (refine ar_call (cp e ?_); simp -implicitDefEqProofs [h, b1, b2, b3]) | (refine ard_call (dp e ?_); simp -implicitDefEqProofs [h, b1, b2, b3]) | fail)
    refine aw_ret (fin_ret ?_); simp -implicitDefEqProofs [FinP, resV, resT] <;> try rfl
end Go.Proofs.YtlkggpjdaaglmaaGreatDoor.am
end
section
namespace Go.Proofs.YtlkggpjdaaglmaaGreatDoor.am
open Go.ChangeShapes Go.WideShapes Go.ChangeAt Go.RowKit
open vt
set_option linter.unusedVariables false
set_option linter.unusedSimpArgs false
def Sml (W : List ByteArray) : Prop := ∀ w ∈ W, w.size ≤ 8192
theorem sml_app {A B : List ByteArray} : Sml (A ++ B) ↔ Sml A ∧ Sml B := ⟨fun h => ⟨fun w hw => h w (List.mem_append_left _ hw), fun w hw => h w (List.mem_append_right _ hw)⟩, fun h w hw => (List.mem_append.1 hw).elim (h.1 w) (h.2 w)⟩
theorem J_sml {W : List ByteArray} (h : Sml W) (hl : W.length ≤ 100000) : (J W).size ≤ 819300000 := by
  have h1 := J_size_le W h
  have : W.length * (8192 + 1) ≤ 100000 * 8193 := Nat.mul_le_mul_right _ hl
  omega
theorem pre_split (S : List ByteArray) (Ws : List (List ByteArray)) (k : Nat) : ∃ R, pre S Ws = pre S (Ws.take k) ++ R := by
  cases Ws with
  | nil => exact ⟨[], by simp [pre]⟩
  | cons a r =>
    cases k with
    | zero => exact ⟨pre S (a :: r), rfl⟩
    | succ k =>
      refine ⟨((r.drop k).map (S ++ ·)).flatten, ?_⟩
      rw [List.take_succ_cons]
      unfold pre
      rw [List.append_assoc, ← List.flatten_append, ← List.map_append, List.take_append_drop]
set_option maxRecDepth 100000 in
set_option maxHeartbeats 4000000 in
theorem round_row (x : Lab) (l : List VT) (A : List ByteArray) (hx : Opd x) (hA : A ≠ []) (n : Int) (hs : Sml A) (hl : A.length ≤ 100000) (he : Row Tryz.prog 48 [vT (.mk x l)] [] (vS (J A)) []) : Row Tryz.prog 88 [vT (.mk x l), vI n] [] (vS (J (par (tgh x) A n))) [] := by
  have eb := rbinds_row x l hx
  have hz := J_sml hs hl
  by_cases c : n ≤ tgh x
  · have t : par (tgh x) A n = A := by unfold par; rw [if_pos c]
    have c' : ¬ tgh x < n := by omega
    rw [t]
    generalize tgh x = b at *
    generalize J A = D at *
    refine row_of Tryz.func88 rfl rfl (Nat.le_of_ble_eq_true rfl) ?_
    repeat' (first | refine aw_seq ?_ | refine aw_skip ?_ | refine aw_block ?_ | refine aw_exit ?_ | refine aw_cond rfl (fun _ => ?_) (fun hb => absurd hb (by decide)) | refine aw_cond rfl (fun hb => absurd hb (by decide)) (fun _ => ?_) | (refine aw_reg (fun K hK => ?_); simp -implicitDefEqProofs [c, c']) | (refine aw_drw mixd (fun K hK => ?_); simp -implicitDefEqProofs [c, c']) | refine hK _ ?_ | refine hK _ _ (by rfl) ?_ | (refine ar_call (cp eb ?_); simp -implicitDefEqProofs [c, c']) | (refine ard_call (dp eb ?_); simp -implicitDefEqProofs [c, c']) | (refine ar_call (cp he ?_); simp -implicitDefEqProofs [c, c']) | (refine ard_call (dp he ?_); simp -implicitDefEqProofs [c, c']) | fail)
    refine aw_ret (fin_ret ?_); simp -implicitDefEqProofs [FinP, resV, resT] <;> try rfl
  · have t : par (tgh x) A n = [sParO] ++ A ++ [sParS] := by unfold par; rw [if_neg c]
    have c' : tgh x < n := by omega
    have q : J ([sParO] ++ A ++ [sParS]) = ⟨#[40, 32]⟩ ++ J A ++ ⟨#[32, 41]⟩ := by
      rw [J_app (by simp) (by simp), J_app (by simp) hA, J_one, J_one]
      simp only [ByteArray.append_assoc, app_lit, app_lit2, List.cons_append, List.nil_append]
    rw [t, q]
    generalize tgh x = b at *
    generalize J A = D at *
    have z2 : (⟨#[40, 32]⟩ : ByteArray).size = 2 := rfl
    have z3 : (⟨#[32, 41]⟩ : ByteArray).size = 2 := rfl
    have b1 : (⟨#[40, 32]⟩ : ByteArray).size + D.size ≤ 9223372036854775807 := by omega
    have b2 : (⟨#[40, 32]⟩ : ByteArray).size + D.size + (⟨#[32, 41]⟩ : ByteArray).size ≤ 9223372036854775807 := by omega
    refine row_of Tryz.func88 rfl rfl (Nat.le_of_ble_eq_true rfl) ?_
    repeat' (first | refine aw_seq ?_ | refine aw_skip ?_ | refine aw_block ?_ | refine aw_exit ?_ | refine aw_cond rfl (fun _ => ?_) (fun hb => absurd hb (by decide)) | refine aw_cond rfl (fun hb => absurd hb (by decide)) (fun _ => ?_) | (refine aw_reg (fun K hK => ?_); simp -implicitDefEqProofs [c', b1, b2]) | (refine aw_drw mixd (fun K hK => ?_); simp -implicitDefEqProofs [c', b1, b2]) | refine hK _ ?_ | refine hK _ _ (by rfl) ?_ | (refine ar_call (cp eb ?_); simp -implicitDefEqProofs [c', b1, b2]) | (refine ard_call (dp eb ?_); simp -implicitDefEqProofs [c', b1, b2]) | (refine ar_call (cp he ?_); simp -implicitDefEqProofs [c', b1, b2]) | (refine ard_call (dp he ?_); simp -implicitDefEqProofs [c', b1, b2]) | fail)
    refine aw_ret (fin_ret ?_); simp -implicitDefEqProofs [FinP, resV, resT] <;> try rfl
set_option maxRecDepth 100000 in
set_option maxHeartbeats 4000000 in
theorem rlist_row (fi la : ByteArray) (l : List VT) (Ws : List (List ByteArray)) (hl : l.length = Ws.length) (hn : l.length ≤ 100000) (hf : fi.size ≤ 10) (hla : la.size ≤ 10) (hne : ∀ W ∈ Ws, W ≠ []) (hs : Sml (pre [sCom] Ws)) (hL : (pre [sCom] Ws).length ≤ 99990) (he : ∀ (i : Nat) t W, l[i]? = some t → Ws[i]? = some W → Row Tryz.prog 48 [vT t] [] (vS (J W)) []) : Row Tryz.prog 90 [vLs l, vS fi, vS la] [] (vS (J ([fi] ++ (pre [sCom] Ws ++ [la])))) [] := by
  have hsp := pre_split [sCom] Ws
  have hstep := fun k W h => pre_take (sep := [sCom]) (Ws := Ws) (k := k) (W := W) h
  have hsm : ∀ k, (J ([fi] ++ pre [sCom] (Ws.take k))).size ≤ 819300000 := fun k => by
    obtain ⟨R, hR⟩ := hsp k
    rw [hR] at hs hL
    rw [List.length_append] at hL
    exact J_sml (sml_app.2 ⟨fun w hw => by rw [List.mem_singleton.1 hw]; omega, (sml_app.1 hs).1⟩) (by simp; omega)
  have h0 : J ([fi] ++ pre [sCom] (Ws.take 0)) = fi := J_one fi
  have h0' : J [fi] = fi := J_one fi
  have hend : J ([fi] ++ (pre [sCom] Ws ++ [la])) = J ([fi] ++ pre [sCom] (Ws.take Ws.length)) ++ sp ++ la := by
    rw [List.take_length, ← List.append_assoc, J_app (by simp) (by simp), J_one]
  rw [hend]
  refine row_of Tryz.func90 rfl rfl (Nat.le_of_ble_eq_true rfl) ?_
  repeat (first | refine aw_seq ?_ | refine aw_skip ?_ | refine aw_block ?_ | refine aw_exit ?_ | refine aw_cond rfl (fun _ => ?_) (fun hb => absurd hb (by decide)) | refine aw_cond rfl (fun hb => absurd hb (by decide)) (fun _ => ?_) | (refine aw_reg (fun K hK => ?_); simp -implicitDefEqProofs; refine hK _ ?_) | (refine aw_drw mixd (fun K hK => ?_); simp -implicitDefEqProofs; refine hK _ _ (by rfl) ?_) | fail)
  refine aw_lp (ι := Nat) (fun k => mkSt [(0, vLs l), (2, vS la), (7, vS (J ([fi] ++ pre [sCom] (Ws.take k)))), (8, vI (k : Nat))] []) (fun k => k ≤ l.length) (fun k => l.length - k) 0 (Nat.zero_le _) (cov_intro [] (by simp -implicitDefEqProofs [h0', pre]) (by simp -implicitDefEqProofs [h0', pre]) (by decide) rfl (by simp)) (fun Z hI k hk => ?_)
  by_cases hkl : k < l.length; rotate_left
  · have hke : k = Ws.length := by omega
    subst hke
    have hz := hsm Ws.length
    have hlt : ¬ Ws.length < l.length := by omega
    have z1 : sp.size = 1 := rfl
    generalize J ([fi] ++ pre [sCom] (Ws.take Ws.length)) = D at *
    have b1 : D.size + sp.size ≤ 9223372036854775807 := by omega
    have b2 : D.size + sp.size + la.size ≤ 9223372036854775807 := by omega
    repeat (first | refine aw_seq ?_ | refine aw_skip ?_ | refine aw_block ?_ | refine aw_exit ?_ | refine aw_cond rfl (fun _ => ?_) (fun hb => absurd hb (by decide)) | refine aw_cond rfl (fun hb => absurd hb (by decide)) (fun _ => ?_) | (refine aw_reg (fun K hK => ?_); simp -implicitDefEqProofs [hlt, b1, b2]; refine hK _ ?_) | (refine aw_drw mixd (fun K hK => ?_); simp -implicitDefEqProofs [hlt, b1, b2]; refine hK _ _ (by rfl) ?_) | fail)
    refine aw_ret (fin_ret ?_); simp -implicitDefEqProofs [FinP, resV, resT] <;> try rfl
  obtain ⟨⟨ux, ul⟩, hu⟩ : ∃ a, l[k]? = some a := ⟨_, List.getElem?_eq_getElem hkl⟩
  have hu' := (List.getElem?_eq_some_iff.1 hu).2
  obtain ⟨W, hW⟩ : ∃ a, Ws[k]? = some a := ⟨_, List.getElem?_eq_getElem (by omega)⟩
  have hst := hstep k W hW
  have hWn := hne W (List.mem_of_getElem? hW)
  have q := he k _ W hu hW
  have z1 := hsm (k + 1)
  have z0 := hsm k
  have w2 : IntKind.i64.wrap ((k : Nat) + 1 : Int) = (k : Nat) + 1 := i64i _ (by omega) (by omega)
  have zs : sp.size = 1 := rfl
  have zc : (⟨#[32, 44]⟩ : ByteArray).size = 2 := rfl
  by_cases hk0 : k = 0
  · have hkp : ¬ 0 < k := by omega
    have e3 : J ([fi] ++ pre [sCom] (Ws.take (k + 1))) = J ([fi] ++ pre [sCom] (Ws.take k)) ++ sp ++ J W := by
      rw [hst, if_pos hk0, List.nil_append, ← List.append_assoc, J_app (by simp) hWn]
    rw [e3, ByteArray.size_append, ByteArray.size_append] at z1
    obtain ⟨T, hT⟩ : ∃ T, J ([fi] ++ pre [sCom] (Ws.take (k + 1))) = T := ⟨_, rfl⟩
    have hT' : J (fi :: pre [sCom] (Ws.take (k + 1))) = T := hT
    rw [hT] at e3
    generalize J ([fi] ++ pre [sCom] (Ws.take k)) = D at *
    generalize J W = E at *
    have b1 : D.size + sp.size ≤ 9223372036854775807 := by omega
    have b2 : D.size + sp.size + E.size ≤ 9223372036854775807 := by omega
    clear hk0
    repeat' (first | refine aw_seq ?_ | refine aw_skip ?_ | refine aw_block ?_ | refine aw_exit ?_ | refine aw_cond rfl (fun _ => ?_) (fun hb => absurd hb (by decide)) | refine aw_cond rfl (fun hb => absurd hb (by decide)) (fun _ => ?_) | (refine aw_reg (fun K hK => ?_); simp -implicitDefEqProofs [hkl, hu, hu', hkp, b1, b2, w2]) | (refine aw_drw mixd (fun K hK => ?_); simp -implicitDefEqProofs [hkl, hu, hu', hkp, b1, b2, w2]) | refine hK _ ?_ | refine hK _ _ (by rfl) ?_ | (refine ar_call (cp q ?_); simp -implicitDefEqProofs [hkl, hu, hu', hkp, b1, b2, w2]) | (refine ard_call (dp q ?_); simp -implicitDefEqProofs [hkl, hu, hu', hkp, b1, b2, w2]) | fail)
    refine ⟨k + 1, by omega, (by dsimp only; omega), ?_⟩; rw [hI]; exact cov_intro [] (by simp -implicitDefEqProofs [hT', e3]) (by simp -implicitDefEqProofs [hT', e3]) (by decide) rfl (by simp)
  · have hkp : 0 < k := by omega
    have e3 : J ([fi] ++ pre [sCom] (Ws.take (k + 1))) = J ([fi] ++ pre [sCom] (Ws.take k)) ++ ⟨#[32, 44]⟩ ++ sp ++ J W := by
      rw [hst, if_neg hk0, ← List.append_assoc, J_app (by simp) (by simp), J_app (by simp) hWn, J_one]
      simp only [ByteArray.append_assoc, app_lit, app_lit2, List.cons_append, List.nil_append]
    rw [e3, ByteArray.size_append, ByteArray.size_append, ByteArray.size_append] at z1
    obtain ⟨T, hT⟩ : ∃ T, J ([fi] ++ pre [sCom] (Ws.take (k + 1))) = T := ⟨_, rfl⟩
    have hT' : J (fi :: pre [sCom] (Ws.take (k + 1))) = T := hT
    rw [hT] at e3
    generalize J ([fi] ++ pre [sCom] (Ws.take k)) = D at *
    generalize J W = E at *
    have b0 : D.size + (⟨#[32, 44]⟩ : ByteArray).size ≤ 9223372036854775807 := by omega
    have b1 : D.size + (⟨#[32, 44]⟩ : ByteArray).size + sp.size ≤ 9223372036854775807 := by omega
    have b2 : D.size + (⟨#[32, 44]⟩ : ByteArray).size + sp.size + E.size ≤ 9223372036854775807 := by omega
    repeat' (first | refine aw_seq ?_ | refine aw_skip ?_ | refine aw_block ?_ | refine aw_exit ?_ | refine aw_cond rfl (fun _ => ?_) (fun hb => absurd hb (by decide)) | refine aw_cond rfl (fun hb => absurd hb (by decide)) (fun _ => ?_) | (refine aw_reg (fun K hK => ?_); simp -implicitDefEqProofs [hkl, hu, hu', hkp, b0, b1, b2, w2]) | (refine aw_drw mixd (fun K hK => ?_); simp -implicitDefEqProofs [hkl, hu, hu', hkp, b0, b1, b2, w2]) | refine hK _ ?_ | refine hK _ _ (by rfl) ?_ | (refine ar_call (cp q ?_); simp -implicitDefEqProofs [hkl, hu, hu', hkp, b0, b1, b2, w2]) | (refine ard_call (dp q ?_); simp -implicitDefEqProofs [hkl, hu, hu', hkp, b0, b1, b2, w2]) | fail)
    refine ⟨k + 1, by omega, (by dsimp only; omega), ?_⟩; rw [hI]; exact cov_intro [] (by simp -implicitDefEqProofs [hT', e3]) (by simp -implicitDefEqProofs [hT', e3]) (by decide) rfl (by simp)
end Go.Proofs.YtlkggpjdaaglmaaGreatDoor.am
end
section
namespace Go.Proofs.YtlkggpjdaaglmaaGreatDoor.am
open Go.ChangeShapes Go.WideShapes Go.ChangeAt Go.RowKit
set_option linter.unusedVariables false
set_option linter.unusedSimpArgs false
theorem cg {P : Program} {N f : Nat} {dst : Option Nat} {first caps : List Cap} {args cargs : List AV} {ch : List AO} {ch' : List (Option AO)} {res : AV} {st : St} {K : St → Prop} (hrow : Row P f cargs ch res ch') (σ : List Nat) (hk : K ((st.wr (wrs (nmap σ ch.length st.nx) 0 ch') 8).put dst (res.ren (nmap σ ch.length st.nx)))) (hfit : fitVs ch.length (fun i => σ.getD i 0) cargs (first.map capV ++ args ++ caps.map capV) := by first | (simp [*]; done) | fail) (ho : covO (hlk st.hp) ch.length (fun i => σ.getD i 0) (ch.map some) σ := by first | (simp [*]; done) | fail) (hnd : σ.Nodup := by first | decide | (simp; done) | fail) (hl : ch'.length ≤ ch.length + 8 := by first | decide | (simp; done) | fail) (hl' : ch.length ≤ ch'.length := by first | decide | (simp; done) | fail) (hd : dok N dst = true := by rfl) :
    CallK P N dst (.v (.c (.fn (.func f) first caps))) args st K := ⟨f, first, caps, cargs, ch, res, ch', σ, rfl, hrow, hfit, ho, hnd, hl, hl', hd, hk⟩
theorem dg {P : Program} {N f : Nat} {dst : Option Nat} {first caps : List Cap} {args cargs : List AV} {ch : List AO} {ch' : List (Option AO)} {res : AV} {st : St} {K : List Nat → List Nat → St → Prop} (hrow : Row P f cargs ch res ch') (σ : List Nat) (hk : K σ ((wrs (nmap σ ch.length st.nx) 0 ch').map (·.1)) ((st.wr (wrs (nmap σ ch.length st.nx) 0 ch') 8).put dst (res.ren (nmap σ ch.length st.nx)))) (hfit : fitVs ch.length (fun i => σ.getD i 0) cargs (first.map capV ++ args ++ caps.map capV) := by first | (simp [*]; done) | fail) (ho : covO (hlk st.hp) ch.length (fun i => σ.getD i 0) (ch.map some) σ := by first | (simp [*]; done) | fail) (hnd : σ.Nodup := by first | decide | (simp; done) | fail) (hl : ch'.length ≤ ch.length + 8 := by first | decide | (simp; done) | fail) (hl' : ch.length ≤ ch'.length := by first | decide | (simp; done) | fail) (hd : dok N dst = true := by rfl) :
    CallD P N dst (.v (.c (.fn (.func f) first caps))) args st K := ⟨f, first, caps, cargs, ch, res, ch', σ, rfl, hrow, hfit, ho, hnd, hl, hl', hd, hk⟩
attribute [simp] wrs nmap AC.ren AT.ren AV.ren AO.ren Cap.ren
def FinG (P : Program) (rs : List ResultVar) (res : AV) (ch' : List (Option AO)) (r : List Nat) (st : St) : Prop :=
  match resV P st rs with
  | some x => fitV ch'.length (fun i => r.getD i 0) res x ∧ covO (hlk st.hp) ch'.length (fun i => r.getD i 0) ch' r
  | none => False
theorem fin_g {P : Program} {nb : Nat} {rs : List ResultVar} {res : AV} {ch' : List (Option AO)} {st : St} (r : List Nat) (h : FinG P rs res ch' r st) (hnd : r.Nodup := by first | decide | (simp; done)) (ht : r.take nb = List.range nb := by rfl) (hl : nb ≤ ch'.length := by first | decide | (simp; done)) : Fin P nb rs res ch' .ret st := by
  unfold FinG at h
  split at h
  · rename_i x hx; exact ⟨x, r, hx, h.1, h.2, hnd, ht, hl⟩
  · exact h.elim
section
variable {X : Ctx} {H : Nat → Option AO} {U : Nat → Prop} {γ : Nat → G} {S : CS} {w : World}
def AC.frz (id : Nat) (p : PV) : AC → AC
  | .arr i es n => if i = id then .pv p else .arr i es n
  | .vw i es lo n => if i = id then (match p with | .sl es' l => if es' = es ∧ lo + n ≤ l.length ∧ (lo = 0 ∨ 0 < n) then .pv (.sl es ((l.drop lo).take n)) else .top | _ => .top) else .vw i es lo n
  | c => c
def AT.frz (id : Nat) (p : PV) : AT → AT
  | .c x => .c (x.frz id p)
  | .agg l => .agg (l.map (AC.frz id p))
def AV.frz (id : Nat) (p : PV) : AV → AV
  | .v x => .v (x.frz id p)
  | .ep i es k o => if i = id then .top else .ep i es k o
  | .tup l => .tup (l.map (AT.frz id p))
  | x => x
def AO.frz (id : Nat) (p : PV) : AO → AO
  | .box l => .box (l.map (AC.frz id p))
  | o => o
theorem RepC.frz {γ' : Nat → G} {id : Nat} {p : PV} {v0 : Value} (hg : γ id = .val v0) (hp : RepP S w v0 p) (hγ : γ' = upd γ id .dead) (hG : GOn γ γ') {v : Value} {c : AC} (h : RepC γ S w v c) : RepC γ' S w v (c.frz id p) := by
  have hm : ∀ {c}, RepC γ S w v c → RepC γ' S w v c := fun h => h.mono hG (fun _ _ h => h) (fun _ _ _ => rfl)
  cases c with
  | arr i es n =>
    show RepC γ' S w v (if i = id then .pv p else .arr i es n)
    by_cases hi : i = id
    · rw [if_pos hi]
      subst hi
      rcases h.2 with k | k
      · rw [hg] at k; cases k
      · rw [hg] at k; cases k; exact hp
    · rw [if_neg hi]; exact hm h
  | vw i es lo n =>
    have h1 := h.one
    by_cases hi : i = id
    · subst hi
      unfold AC.frz
      dsimp only
      rw [if_pos rfl]
      split
      · rename_i es' l
        split
        · rename_i hc
          obtain ⟨rfl, hc, hd⟩ := hc
          obtain ⟨a, m, c, hx, a1, hl1, hl2, ha1, rfl⟩ := h
          rcases hx with k | k
          · rw [hg] at k; cases k
          rw [hg] at k; cases k
          obtain ⟨a2, c2, e2, hs⟩ := sl_inv hp
          injection e2 with q1 q2 q3
          subst q1 q2 q3
          have hln : ((l.drop lo).take n).length = n := by rw [List.length_take, List.length_drop]; omega
          have key := hs.part lo (lo + n) c (by omega) (by omega) (Nat.le_refl _) (by omega)
          have e3 : (l.take (lo + n)).drop lo = (l.drop lo).take n := by rw [List.drop_take]; congr 1; omega
          rw [e3] at key
          have key := sl_intro key
          rw [hln] at key
          rcases hd with hd | hd
          · subst hd
            have hz0 : ∀ z : Addr, z.add 0 = z := fun z => by unfold Addr.add; split <;> simp_all
            have e4 : a1 = a := by rw [ha1 (.inl rfl)]; cases a <;> simp [hz0]
            rw [e4]
            have e5 : (if c = 0 then a else a.map (·.add (0 * es'))) = a := by
              split
              · rfl
              · cases a <;> simp [hz0]
            rw [e5] at key
            exact key
          · rw [ha1 (.inr hd)]
            rw [if_neg (by omega)] at key
            exact key
        · exact h1
      · exact h1
    · unfold AC.frz
      dsimp only
      rw [if_neg hi]; exact hm h
  | _ => exact hm h
theorem RepCs.frz {γ' : Nat → G} {id : Nat} {p : PV} {v0 : Value} (hg : γ id = .val v0) (hp : RepP S w v0 p) (hγ : γ' = upd γ id .dead) (hG : GOn γ γ') {vs : List Value} {l : List AC} (h : RepCs γ S w vs l) : RepCs γ' S w vs (l.map (AC.frz id p)) := by
  refine ⟨by rw [List.length_map]; exact h.1, fun i c hi => ?_⟩
  obtain ⟨x, hx, rfl⟩ := map_at hi
  obtain ⟨v, h1, h2⟩ := h.2 i x hx
  exact ⟨v, h1, h2.frz hg hp hγ hG⟩
theorem RepT.frz {γ' : Nat → G} {id : Nat} {p : PV} {v0 : Value} (hg : γ id = .val v0) (hp : RepP S w v0 p) (hγ : γ' = upd γ id .dead) (hG : GOn γ γ') {v : Value} {c : AT} (h : RepT γ S w v c) : RepT γ' S w v (c.frz id p) := by
  cases c with
  | c x => exact RepC.frz hg hp hγ hG h
  | agg l => obtain ⟨cs, h1, h2⟩ := h; exact ⟨cs, h1, h2.frz hg hp hγ hG⟩
theorem RepV.frz {γ' : Nat → G} {id : Nat} {p : PV} {v0 : Value} (hg : γ id = .val v0) (hp : RepP S w v0 p) (hγ : γ' = upd γ id .dead) (hG : GOn γ γ') {v : Value} {c : AV} (h : RepV γ S w v c) : RepV γ' S w v (c.frz id p) := by
  cases c with
  | v x => exact RepT.frz hg hp hγ hG h
  | tup l =>
    obtain ⟨cs, h1, h2⟩ := h
    refine ⟨cs, h1, by rw [List.length_map]; exact h2.1, fun i c hi => ?_⟩
    obtain ⟨x, hx, rfl⟩ := map_at hi
    obtain ⟨v, h3, h4⟩ := h2.2 i x hx
    exact ⟨v, h3, h4.frz hg hp hγ hG⟩
  | ep i es k o =>
    show RepV γ' S w v (if i = id then .top else .ep i es k o)
    by_cases hi : i = id
    · rw [if_pos hi]; trivial
    · rw [if_neg hi]; exact RepV.mono hG (fun _ _ h => h) (fun _ _ _ => rfl) h
  | rp c o => exact h
  | top => trivial
theorem Mem.freeze (h : Mem X H U γ S w) {id : Nat} {e : TypeId} {es : Nat} {l : List (List PV)} (hH : H id = some (.arr e es l)) :
    ∃ (S' : CS) (v0 : Value), (∀ b o, S b o → S' b o) ∧ γ id = .val v0 ∧ RepP S' w v0 (.sl es l) ∧ Mem X (fun x => if x = id then none else (H x).map (AO.frz id (.sl es l))) U (upd γ id .dead) S' w := by
  obtain ⟨v0, xs, g1, g2, g3, g5, g4⟩ := h.obj _ _ hH
  have hG := GOn.kill g1
  have hown : ∀ b, v0.ownBlock = some b → (γ id).bk = some b := fun b hb => by rw [g1]; exact hb
  refine ⟨fun b o => S b o ∨ (v0.ownBlock = some b ∧ o < l.length * es), v0, fun _ _ h => .inl h, g1, ?_, ?_⟩
  · rcases g2.2 with ⟨k1, k2⟩ | ⟨g, cap, cur, k1, _, k3, k4, k5, k6, k7⟩
    · subst k1
      have : l = [] := List.length_eq_zero_iff.1 k2
      subst this
      exact .emp none 0 es (by decide) (fun _ => rfl)
    · subst k1
      refine sl_of_block (xs := xs) g5 ((arr_ps g2 g3 g5).mono (fun _ _ h => .inl h) (fun _ _ _ => rfl)) k4 (by unfold maxLen at k5; omega) (fun k u hk => ?_)
      have hk1 : k < l.length * es := by have := (List.getElem?_eq_some_iff.1 hk).1; rw [g2.1] at this; exact this
      refine ⟨.inr ⟨rfl, hk1⟩, ?_⟩
      rw [cell_row k3, ← hk, ← k7, List.getElem?_take, if_pos hk1]
  · have hmk := h.kill g1
    have hobk : ∀ b o, (S b o ∨ (v0.ownBlock = some b ∧ o < l.length * es)) → ∀ x, x ≠ id → (γ x).bk = some b → S b o := fun b o hs x hx hb => hs.elim (fun h => h) (fun hs => (h.dist x id hx b hb (hown b hs.1)).elim)
    have hvS : RepP (fun b o => S b o ∨ (v0.ownBlock = some b ∧ o < l.length * es)) w v0 (.sl es l) := by
      rcases g2.2 with ⟨k1, k2⟩ | ⟨g, cap, cur, k1, _, k3, k4, k5, k6, k7⟩
      · subst k1
        have : l = [] := List.length_eq_zero_iff.1 k2
        subst this
        exact .emp none 0 es (by decide) (fun _ => rfl)
      · subst k1
        refine sl_of_block (xs := xs) g5 ((arr_ps g2 g3 g5).mono (fun _ _ h => .inl h) (fun _ _ _ => rfl)) k4 (by unfold maxLen at k5; omega) (fun k u hk => ?_)
        have hk1 : k < l.length * es := by have := (List.getElem?_eq_some_iff.1 hk).1; rw [g2.1] at this; exact this
        refine ⟨.inr ⟨rfl, hk1⟩, ?_⟩
        rw [cell_row k3, ← hk, ← k7, List.getElem?_take, if_pos hk1]
    refine ⟨hmk.os, hmk.tape, hmk.output, hmk.size, hmk.frame, fun b o hs => ⟨.inl (h.keep b o hs).1, (h.keep b o hs).2⟩, fun b o hs => ?_, fun b o hs => ?_, hmk.mono, hmk.un, fun x hx => ?_, fun x o hx => ?_, hmk.dist, hmk.live⟩
    · rcases hs with hs | ⟨hs, _⟩
      · exact h.fresh b o hs
      · exact .inr (h.live id b (hown b hs)).2
    · rcases hs with hs | ⟨hs, _⟩
      · exact h.inb b o hs
      · exact (h.live id b (hown b hs)).1
    · by_cases hxi : x = id
      · subst hxi; exact .inr (upd_same _ _ _)
      · rw [if_neg hxi] at hx
        rw [upd_ne _ _ hxi]
        exact h.off x (Option.map_eq_none_iff.1 hx)
    · by_cases hxi : x = id
      · rw [if_pos hxi] at hx; cases hx
      · rw [if_neg hxi] at hx
        obtain ⟨o0, ho0, rfl⟩ := Option.map_eq_some_iff.1 hx
        have hO : Obj' (upd γ id .dead) (fun b o => S b o ∨ (v0.ownBlock = some b ∧ o < l.length * es)) w x o0 := Obj'.on (h.obj x o0 ho0) (upd_ne _ _ hxi) hG (fun _ _ h => .inl h) (fun _ _ _ => rfl) (fun b hb => ⟨rfl, fun o hs => hobk b o hs x hxi hb⟩)
        cases o0 with
        | box cells =>
          obtain ⟨b, cs, t, k1, k2, k3, k4⟩ := h.obj x _ ho0
          refine ⟨b, cs, t, by rw [upd_ne _ _ hxi]; exact k1, k2, ?_, fun o hs => k4 o (hobk b o hs x hxi (by rw [k1]; rfl))⟩
          exact (k3.mono (GOn.refl _) (fun _ _ h => .inl h) (fun _ _ _ => rfl)).frz g1 hvS rfl hG
        | _ => exact hO
end
section
variable {P : Program} {N nb : Nat} {st : St} {Q : Exit → St → Prop}
def St.frz (st : St) (id es : Nat) (l : List (List PV)) : St := ⟨st.tm.map fun p => (p.1, p.2.frz id (.sl es l)), st.hp.map fun p => (p.1, if p.1 = id then none else p.2.map (AO.frz id (.sl es l))), st.nx⟩
end
end Go.Proofs.YtlkggpjdaaglmaaGreatDoor.am
end
section
namespace Go.Proofs.YtlkggpjdaaglmaaGreatDoor.am
open Go.ChangeShapes Go.WideShapes Go.ChangeAt Go.RowKit
set_option linter.unusedVariables false
end Go.Proofs.YtlkggpjdaaglmaaGreatDoor.am
end
section
namespace Go.Proofs.YtlkggpjdaaglmaaGreatDoor.am
open Go.ChangeShapes Go.WideShapes Go.ChangeAt Go.RowKit
set_option linter.unusedVariables false
set_option linter.unusedSimpArgs false
variable {P : Program} {N nb : Nat} {st : St} {Q : Exit → St → Prop}
end Go.Proofs.YtlkggpjdaaglmaaGreatDoor.am
end
