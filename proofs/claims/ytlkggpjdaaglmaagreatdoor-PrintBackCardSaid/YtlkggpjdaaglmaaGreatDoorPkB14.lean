import Derived.Test.YtlkggpjdaaglmaaGreatDoorPkB13
import Derived.Test.YtlkggpjdaaglmaaGreatDoorPkB8
import Derived.Test.YtlkggpjdaaglmaaGreatDoorPkB6
section
namespace Go.Proofs.YtlkggpjdaaglmaaGreatDoor.am
open Go.ChangeShapes Go.WideShapes Go.ChangeAt Go.RowKit
open vt
set_option linter.unusedVariables false
set_option linter.unusedSimpArgs false
theorem wds_len (sep : List ByteArray) : ∀ r : List (List ByteArray), (∀ W ∈ r, W ≠ []) → r.length ≤ ((r.map (sep ++ ·)).flatten).length
  | [], _ => Nat.zero_le _
  | b :: r, h => by
    have h3 := List.length_pos_iff.2 (h b (.head _))
    have := wds_len sep r (fun W hW => h W (.tail _ hW))
    simp only [List.map_cons, List.flatten_cons, List.length_append, List.length_cons] at *
    omega
theorem ws_kids {l : List VT} {Ws : List (List ByteArray)} (hl : l.length = Ws.length) (hw : ∀ (i : Nat) t W, l[i]? = some t → Ws[i]? = some W → W ≠ []) (sep : List ByteArray) : l.length ≤ (pre sep Ws).length := by
  have hW : ∀ W ∈ Ws, W ≠ [] := fun W hW => by
    obtain ⟨i, hi⟩ := List.mem_iff_getElem?.1 hW
    have hlt := (List.getElem?_eq_some_iff.1 hi).1
    exact hw i _ W (List.getElem?_eq_getElem (by omega)) hi
  rw [hl]
  cases Ws with
  | nil => exact Nat.zero_le _
  | cons a r =>
    unfold pre
    have h1 := List.length_pos_iff.2 (hW a (.head _))
    have h2 := wds_len sep r (fun W h => hW W (.tail _ h))
    rw [List.length_append, List.length_cons]
    omega
set_option maxRecDepth 100000 in
set_option maxHeartbeats 4000000 in
theorem pexp_row (LL : List (Nat × Array Value)) (hLL : LibN LL) {t : VT} {W : List ByteArray} (hW : WE t W) : ∀ L : List ByteArray, L.length + 3 * W.length ≤ 1000000 → PRow LL 45 [vT t] L W := by
  induction hW with
  | num x h h0 h1 =>
    intro L hL
    have p := number_row LL hLL L x.n h0 h1 (by simp at hL; omega)
    refine row_of Tryz.func45 rfl rfl (Nat.le_of_ble_eq_true rfl) ?_
    repeat' (first | refine aw_seq ?_ | refine aw_skip ?_ | refine aw_block ?_ | refine aw_exit ?_ | refine aw_ct rfl ?_ | refine aw_cf rfl ?_ | ((first | refine aw_reg (fun K hK => ?_) | refine aw_drw mixd (fun K hK => ?_) | refine ar_call (cgw p 0 2 rfl ?_) | refine ard_call (dgw p 0 2 rfl ?_) | fail); simp -implicitDefEqProofs [h]) | refine hK _ ?_ | refine hK _ _ (by rfl) ?_ | fail)
    refine fin_fall (fin_gw rfl ?_); simp -implicitDefEqProofs [FinG, resV, resT] <;> try rfl
  | tru x h hn =>
    intro L hL
    have p := put_row LL L [wTrue] (by simp at hL ⊢; omega)
    refine row_of Tryz.func45 rfl rfl (Nat.le_of_ble_eq_true rfl) ?_
    repeat' (first | refine aw_seq ?_ | refine aw_skip ?_ | refine aw_block ?_ | refine aw_exit ?_ | refine aw_ct rfl ?_ | refine aw_cf rfl ?_ | ((first | refine aw_reg (fun K hK => ?_) | refine aw_drw mixd (fun K hK => ?_) | refine ar_call (cgw p 0 2 rfl ?_) | refine ard_call (dgw p 0 2 rfl ?_) | fail); simp -implicitDefEqProofs [h, hn]) | refine hK _ ?_ | refine hK _ _ (by rfl) ?_ | fail)
    refine fin_fall (fin_gw rfl ?_); simp -implicitDefEqProofs [FinG, resV, resT] <;> try rfl
  | fls x h hn =>
    intro L hL
    have p := put_row LL L [wFals] (by simp at hL ⊢; omega)
    refine row_of Tryz.func45 rfl rfl (Nat.le_of_ble_eq_true rfl) ?_
    repeat' (first | refine aw_seq ?_ | refine aw_skip ?_ | refine aw_block ?_ | refine aw_exit ?_ | refine aw_ct rfl ?_ | refine aw_cf rfl ?_ | ((first | refine aw_reg (fun K hK => ?_) | refine aw_drw mixd (fun K hK => ?_) | refine ar_call (cgw p 0 2 rfl ?_) | refine ard_call (dgw p 0 2 rfl ?_) | fail); simp -implicitDefEqProofs [h, hn]) | refine hK _ ?_ | refine hK _ _ (by rfl) ?_ | fail)
    refine fin_fall (fin_gw rfl ?_); simp -implicitDefEqProofs [FinG, resV, resT] <;> try rfl
  | read x h =>
    intro L hL
    have p := put_row LL L [wRead] (by simp at hL ⊢; omega)
    refine row_of Tryz.func45 rfl rfl (Nat.le_of_ble_eq_true rfl) ?_
    repeat' (first | refine aw_seq ?_ | refine aw_skip ?_ | refine aw_block ?_ | refine aw_exit ?_ | refine aw_ct rfl ?_ | refine aw_cf rfl ?_ | ((first | refine aw_reg (fun K hK => ?_) | refine aw_drw mixd (fun K hK => ?_) | refine ar_call (cgw p 0 2 rfl ?_) | refine ard_call (dgw p 0 2 rfl ?_) | fail); simp -implicitDefEqProofs [h]) | refine hK _ ?_ | refine hK _ _ (by rfl) ?_ | fail)
    refine fin_fall (fin_gw rfl ?_); simp -implicitDefEqProofs [FinG, resV, resT] <;> try rfl
  | nam x h hs =>
    intro L hL
    have p := name_row LL L x.s (by simp at hL; omega)
    refine row_of Tryz.func45 rfl rfl (Nat.le_of_ble_eq_true rfl) ?_
    repeat' (first | refine aw_seq ?_ | refine aw_skip ?_ | refine aw_block ?_ | refine aw_exit ?_ | refine aw_ct rfl ?_ | refine aw_cf rfl ?_ | ((first | refine aw_reg (fun K hK => ?_) | refine aw_drw mixd (fun K hK => ?_) | refine ar_call (cgw p 0 2 rfl ?_) | refine ard_call (dgw p 0 2 rfl ?_) | fail); simp -implicitDefEqProofs [h]) | refine hK _ ?_ | refine hK _ _ (by rfl) ?_ | fail)
    refine fin_fall (fin_gw rfl ?_); simp -implicitDefEqProofs [FinG, resV, resT] <;> try rfl
  | bin x a c al cl A C h h1 h2 ha hc ia ic =>
    intro L hL
    have p := two_row LL x a c al cl A C h1 h2 ha hc ia ic L hL
    generalize (par (tgh a) A (if (opB x.n).2 = 3 then 4 else (opB x.n).2) ++ ([(opB x.n).1] ++ par (tgh c) C ((opB x.n).2 + 1))) = R at *
    refine row_of Tryz.func45 rfl rfl (Nat.le_of_ble_eq_true rfl) ?_
    repeat' (first | refine aw_seq ?_ | refine aw_skip ?_ | refine aw_block ?_ | refine aw_exit ?_ | refine aw_ct rfl ?_ | refine aw_cf rfl ?_ | ((first | refine aw_reg (fun K hK => ?_) | refine aw_drw mixd (fun K hK => ?_) | refine ar_call (cgw p 0 2 rfl ?_) | refine ard_call (dgw p 0 2 rfl ?_) | fail); simp -implicitDefEqProofs [h]) | refine hK _ ?_ | refine hK _ _ (by rfl) ?_ | fail)
    refine fin_fall (fin_gw rfl ?_); simp -implicitDefEqProofs [FinG, resV, resT] <;> try rfl
  | neg x a al A h hn ha ia =>
    intro L hL
    have p := one_row LL x a al A sMin (.inl ⟨hn, rfl⟩) ha ia L hL
    generalize [sMin] ++ par (tgh a) A 6 = R at *
    refine row_of Tryz.func45 rfl rfl (Nat.le_of_ble_eq_true rfl) ?_
    repeat' (first | refine aw_seq ?_ | refine aw_skip ?_ | refine aw_block ?_ | refine aw_exit ?_ | refine aw_ct rfl ?_ | refine aw_cf rfl ?_ | ((first | refine aw_reg (fun K hK => ?_) | refine aw_drw mixd (fun K hK => ?_) | refine ar_call (cgw p 0 2 rfl ?_) | refine ard_call (dgw p 0 2 rfl ?_) | fail); simp -implicitDefEqProofs [h]) | refine hK _ ?_ | refine hK _ _ (by rfl) ?_ | fail)
    refine fin_fall (fin_gw rfl ?_); simp -implicitDefEqProofs [FinG, resV, resT] <;> try rfl
  | nt x a al A h hn ha ia =>
    intro L hL
    have p := one_row LL x a al A sNot (.inr ⟨hn, rfl⟩) ha ia L hL
    generalize [sNot] ++ par (tgh a) A 6 = R at *
    refine row_of Tryz.func45 rfl rfl (Nat.le_of_ble_eq_true rfl) ?_
    repeat' (first | refine aw_seq ?_ | refine aw_skip ?_ | refine aw_block ?_ | refine aw_exit ?_ | refine aw_ct rfl ?_ | refine aw_cf rfl ?_ | ((first | refine aw_reg (fun K hK => ?_) | refine aw_drw mixd (fun K hK => ?_) | refine ar_call (cgw p 0 2 rfl ?_) | refine ard_call (dgw p 0 2 rfl ?_) | fail); simp -implicitDefEqProofs [h]) | refine hK _ ?_ | refine hK _ _ (by rfl) ?_ | fail)
    refine fin_fall (fin_gw rfl ?_); simp -implicitDefEqProofs [FinG, resV, resT] <;> try rfl
  | idx x a c al cl A C h ha hc ia ic =>
    intro L hL
    simp only [List.length_append, List.length_cons, List.length_nil] at hL
    have q0 := part_row x [.mk a al, .mk c cl] 0 (.mk a al) rfl (by decide)
    have q1 := part_row x [.mk a al, .mk c cl] 1 (.mk c cl) rfl (by decide)
    have p1 := operand_row LL a al A (we_opd ha) 7 (we_ne ha) ia L (by omega)
    have p2 := put_row LL (L ++ par (tgh a) A 7) [sOpen] (by simp; omega)
    have p3 := ic (L ++ par (tgh a) A 7 ++ [sOpen]) (by simp; omega)
    have p4 := put_row LL (L ++ par (tgh a) A 7 ++ [sOpen] ++ C) [sShut] (by simp; omega)
    generalize par (tgh a) A 7 = PA at *
    refine row_of Tryz.func45 rfl rfl (Nat.le_of_ble_eq_true rfl) ?_
    repeat' (first | refine aw_seq ?_ | refine aw_skip ?_ | refine aw_block ?_ | refine aw_exit ?_ | refine aw_ct rfl ?_ | refine aw_cf rfl ?_ | ((first | refine aw_reg (fun K hK => ?_) | refine aw_drw mixd (fun K hK => ?_) | refine ar_call (cp q0 ?_) | refine ard_call (dp q0 ?_) | refine ar_call (cp q1 ?_) | refine ard_call (dp q1 ?_) | refine ar_call (cgw p1 0 2 rfl ?_) | refine ard_call (dgw p1 0 2 rfl ?_) | refine ar_call (cgw p2 0 2 rfl ?_) | refine ard_call (dgw p2 0 2 rfl ?_) | refine ar_call (cgw p3 0 2 rfl ?_) | refine ard_call (dgw p3 0 2 rfl ?_) | refine ar_call (cgw p4 0 2 rfl ?_) | refine ard_call (dgw p4 0 2 rfl ?_) | fail); simp -implicitDefEqProofs [h]) | refine hK _ ?_ | refine hK _ _ (by rfl) ?_ | fail)
    refine fin_fall (fin_gw rfl ?_); simp -implicitDefEqProofs [FinG, resV, resT] <;> try rfl
  | fld x a al A h hs ha ia =>
    intro L hL
    simp only [List.length_append, List.length_cons, List.length_nil] at hL
    have q0 := part_row x [.mk a al] 0 (.mk a al) rfl (by decide)
    have p1 := operand_row LL a al A (we_opd ha) 7 (we_ne ha) ia L (by omega)
    have p2 := put_row LL (L ++ par (tgh a) A 7) [sDot] (by simp; omega)
    have p3 := name_row LL (L ++ par (tgh a) A 7 ++ [sDot]) x.s (by simp; omega)
    generalize par (tgh a) A 7 = PA at *
    refine row_of Tryz.func45 rfl rfl (Nat.le_of_ble_eq_true rfl) ?_
    repeat' (first | refine aw_seq ?_ | refine aw_skip ?_ | refine aw_block ?_ | refine aw_exit ?_ | refine aw_ct rfl ?_ | refine aw_cf rfl ?_ | ((first | refine aw_reg (fun K hK => ?_) | refine aw_drw mixd (fun K hK => ?_) | refine ar_call (cp q0 ?_) | refine ard_call (dp q0 ?_) | refine ar_call (cgw p1 0 2 rfl ?_) | refine ard_call (dgw p1 0 2 rfl ?_) | refine ar_call (cgw p2 0 2 rfl ?_) | refine ard_call (dgw p2 0 2 rfl ?_) | refine ar_call (cgw p3 0 2 rfl ?_) | refine ard_call (dgw p3 0 2 rfl ?_) | fail); simp -implicitDefEqProofs [h]) | refine hK _ ?_ | refine hK _ _ (by rfl) ?_ | fail)
    refine fin_fall (fin_gw rfl ?_); simp -implicitDefEqProofs [FinG, resV, resT] <;> try rfl
  | lst x l Ws h hl hw ih =>
    intro L hL
    have k := ws_kids hl (fun i t W a b => we_ne (hw i t W a b)) [sCom]
    have e : [sOpen] ++ (pre [sCom] Ws ++ [sShut]) = (brW x).1 ++ (pre [sCom] Ws ++ [(brW x).2]) := by unfold brW; rw [if_pos h]
    rw [e] at hL ⊢
    have p := brack_row LL x l Ws (.inl h) hl (by simp only [List.length_append] at hL; omega) ih L hL
    generalize (brW x).1 ++ (pre [sCom] Ws ++ [(brW x).2]) = R at *
    refine row_of Tryz.func45 rfl rfl (Nat.le_of_ble_eq_true rfl) ?_
    repeat' (first | refine aw_seq ?_ | refine aw_skip ?_ | refine aw_block ?_ | refine aw_exit ?_ | refine aw_ct rfl ?_ | refine aw_cf rfl ?_ | ((first | refine aw_reg (fun K hK => ?_) | refine aw_drw mixd (fun K hK => ?_) | refine ar_call (cgw p 0 2 rfl ?_) | refine ard_call (dgw p 0 2 rfl ?_) | fail); simp -implicitDefEqProofs [h]) | refine hK _ ?_ | refine hK _ _ (by rfl) ?_ | fail)
    refine fin_fall (fin_gw rfl ?_); simp -implicitDefEqProofs [FinG, resV, resT] <;> try rfl
  | mak x l Ws h hs hl hw ih =>
    intro L hL
    have k := ws_kids hl (fun i t W a b => we_ne (hw i t W a b)) [sCom]
    have e : [wNew] ++ ([x.s] ++ ([sParO] ++ (pre [sCom] Ws ++ [sParS]))) = (brW x).1 ++ (pre [sCom] Ws ++ [(brW x).2]) := by unfold brW; rw [if_neg (by omega), if_pos h]; simp
    rw [e] at hL ⊢
    have p := brack_row LL x l Ws (.inr (.inl h)) hl (by simp only [List.length_append] at hL; omega) ih L hL
    generalize (brW x).1 ++ (pre [sCom] Ws ++ [(brW x).2]) = R at *
    refine row_of Tryz.func45 rfl rfl (Nat.le_of_ble_eq_true rfl) ?_
    repeat' (first | refine aw_seq ?_ | refine aw_skip ?_ | refine aw_block ?_ | refine aw_exit ?_ | refine aw_ct rfl ?_ | refine aw_cf rfl ?_ | ((first | refine aw_reg (fun K hK => ?_) | refine aw_drw mixd (fun K hK => ?_) | refine ar_call (cgw p 0 2 rfl ?_) | refine ard_call (dgw p 0 2 rfl ?_) | fail); simp -implicitDefEqProofs [h]) | refine hK _ ?_ | refine hK _ _ (by rfl) ?_ | fail)
    refine fin_fall (fin_gw rfl ?_); simp -implicitDefEqProofs [FinG, resV, resT] <;> try rfl
  | cal x l Ws h hs hl hw ih =>
    intro L hL
    have k := ws_kids hl (fun i t W a b => we_ne (hw i t W a b)) [sCom]
    have e : [x.s] ++ ([sParO] ++ (pre [sCom] Ws ++ [sParS])) = (brW x).1 ++ (pre [sCom] Ws ++ [(brW x).2]) := by unfold brW; rw [if_neg (by omega), if_neg (by omega), if_pos h]; simp
    rw [e] at hL ⊢
    have p := brack_row LL x l Ws (.inr (.inr (.inl h))) hl (by simp only [List.length_append] at hL; omega) ih L hL
    generalize (brW x).1 ++ (pre [sCom] Ws ++ [(brW x).2]) = R at *
    refine row_of Tryz.func45 rfl rfl (Nat.le_of_ble_eq_true rfl) ?_
    repeat' (first | refine aw_seq ?_ | refine aw_skip ?_ | refine aw_block ?_ | refine aw_exit ?_ | refine aw_ct rfl ?_ | refine aw_cf rfl ?_ | ((first | refine aw_reg (fun K hK => ?_) | refine aw_drw mixd (fun K hK => ?_) | refine ar_call (cgw p 0 2 rfl ?_) | refine ard_call (dgw p 0 2 rfl ?_) | fail); simp -implicitDefEqProofs [h]) | refine hK _ ?_ | refine hK _ _ (by rfl) ?_ | fail)
    refine fin_fall (fin_gw rfl ?_); simp -implicitDefEqProofs [FinG, resV, resT] <;> try rfl
  | ext x l Ws h hs hl hw ih =>
    intro L hL
    have k := ws_kids hl (fun i t W a b => we_ne (hw i t W a b)) [sCom]
    have e : [sAt] ++ ([x.s] ++ ([sParO] ++ (pre [sCom] Ws ++ [sParS]))) = (brW x).1 ++ (pre [sCom] Ws ++ [(brW x).2]) := by unfold brW; rw [if_neg (by omega), if_neg (by omega), if_neg (by omega)]; simp
    rw [e] at hL ⊢
    have p := brack_row LL x l Ws (.inr (.inr (.inr h))) hl (by simp only [List.length_append] at hL; omega) ih L hL
    generalize (brW x).1 ++ (pre [sCom] Ws ++ [(brW x).2]) = R at *
    refine row_of Tryz.func45 rfl rfl (Nat.le_of_ble_eq_true rfl) ?_
    repeat' (first | refine aw_seq ?_ | refine aw_skip ?_ | refine aw_block ?_ | refine aw_exit ?_ | refine aw_ct rfl ?_ | refine aw_cf rfl ?_ | ((first | refine aw_reg (fun K hK => ?_) | refine aw_drw mixd (fun K hK => ?_) | refine ar_call (cgw p 0 2 rfl ?_) | refine ard_call (dgw p 0 2 rfl ?_) | fail); simp -implicitDefEqProofs [h]) | refine hK _ ?_ | refine hK _ _ (by rfl) ?_ | fail)
    refine fin_fall (fin_gw rfl ?_); simp -implicitDefEqProofs [FinG, resV, resT] <;> try rfl
end Go.Proofs.YtlkggpjdaaglmaaGreatDoor.am
end
section
namespace Go.Proofs.YtlkggpjdaaglmaaGreatDoor.am
open Go.ChangeShapes Go.WideShapes Go.ChangeAt Go.RowKit
open vt
set_option linter.unusedVariables false
set_option linter.unusedSimpArgs false
set_option maxRecDepth 100000 in
set_option maxHeartbeats 4000000 in
theorem pclosed_row (LL : List (Nat × Array Value)) (hLL : LibN LL) {t : VT} {A : List ByteArray} (ha : WE t A) (L : List ByteArray) (hL : L.length + 3 * (A.length + 1) ≤ 1000000) : PRow LL 137 [vT t] L (A ++ [sEnd]) := by
  have p1 := pexp_row LL hLL ha L (by omega)
  have p2 := put_row LL (L ++ A) [sEnd] (by simp; omega)
  refine row_of Tryz.func137 rfl rfl (Nat.le_of_ble_eq_true rfl) ?_
  repeat' (first | refine aw_seq ?_ | refine aw_skip ?_ | refine aw_block ?_ | refine aw_exit ?_ | refine aw_ct rfl ?_ | refine aw_cf rfl ?_ | ((first | refine aw_reg (fun K hK => ?_) | refine aw_drw mixd (fun K hK => ?_) | refine ar_call (cgw p1 0 2 rfl ?_) | refine ard_call (dgw p1 0 2 rfl ?_) | refine ar_call (cgw p2 0 2 rfl ?_) | refine ard_call (dgw p2 0 2 rfl ?_) | fail); simp -implicitDefEqProofs) | refine hK _ ?_ | refine hK _ _ (by rfl) ?_ | fail)
  refine fin_fall (fin_gw rfl ?_); simp -implicitDefEqProofs [FinG, resV, resT] <;> try rfl
set_option maxRecDepth 100000 in
set_option maxHeartbeats 4000000 in
theorem param_row (LL : List (Nat × Array Value)) (hLL : LibN LL) (x a : Lab) (al : List VT) {A : List ByteArray} (ha : WTp (.mk a al) A) (L : List ByteArray) (hL : L.length + (A.length + 2) ≤ 1000000) : PRow LL 80 [vT (.mk x [.mk a al])] L ([x.s] ++ ([sCol] ++ A)) := by
  have q0 := part_row x [.mk a al] 0 (.mk a al) rfl (by decide)
  have p1 := name_row LL L x.s (by omega)
  have p2 := put_row LL (L ++ [x.s]) [sCol] (by simp; omega)
  have p3 := ptyp_row LL hLL ha (L ++ [x.s] ++ [sCol]) (by simp; omega)
  refine row_of Tryz.func80 rfl rfl (Nat.le_of_ble_eq_true rfl) ?_
  repeat' (first | refine aw_seq ?_ | refine aw_skip ?_ | refine aw_block ?_ | refine aw_exit ?_ | refine aw_ct rfl ?_ | refine aw_cf rfl ?_ | ((first | refine aw_reg (fun K hK => ?_) | refine aw_drw mixd (fun K hK => ?_) | refine ar_call (cp q0 ?_) | refine ard_call (dp q0 ?_) | refine ar_call (cgw p1 0 2 rfl ?_) | refine ard_call (dgw p1 0 2 rfl ?_) | refine ar_call (cgw p2 0 2 rfl ?_) | refine ard_call (dgw p2 0 2 rfl ?_) | refine ar_call (cgw p3 0 2 rfl ?_) | refine ard_call (dgw p3 0 2 rfl ?_) | fail); simp -implicitDefEqProofs) | refine hK _ ?_ | refine hK _ _ (by rfl) ?_ | fail)
  refine fin_fall (fin_gw rfl ?_); simp -implicitDefEqProofs [FinG, resV, resT] <;> try rfl
set_option maxRecDepth 100000 in
set_option maxHeartbeats 4000000 in
theorem field_row (LL : List (Nat × Array Value)) (hLL : LibN LL) (x a : Lab) (al : List VT) {A : List ByteArray} (ha : WTp (.mk a al) A) (L : List ByteArray) (hL : L.length + (A.length + 3) ≤ 1000000) : PRow LL 44 [vT (.mk x [.mk a al])] L ([x.s] ++ ([sCol] ++ (A ++ [sEnd]))) := by
  have p1 := param_row LL hLL x a al ha L (by omega)
  have p2 := put_row LL (L ++ ([x.s] ++ ([sCol] ++ A))) [sEnd] (by simp; omega)
  have e : L ++ ([x.s] ++ ([sCol] ++ (A ++ [sEnd]))) = L ++ ([x.s] ++ ([sCol] ++ A)) ++ [sEnd] := by simp
  show Row _ _ _ _ _ [some (bxW 3 (ws (L ++ ([x.s] ++ ([sCol] ++ (A ++ [sEnd])))))), _, _, _]
  rw [e]
  generalize [x.s] ++ ([sCol] ++ A) = R at *
  refine row_of Tryz.func44 rfl rfl (Nat.le_of_ble_eq_true rfl) ?_
  repeat' (first | refine aw_seq ?_ | refine aw_skip ?_ | refine aw_block ?_ | refine aw_exit ?_ | refine aw_ct rfl ?_ | refine aw_cf rfl ?_ | ((first | refine aw_reg (fun K hK => ?_) | refine aw_drw mixd (fun K hK => ?_) | refine ar_call (cgw p1 0 2 rfl ?_) | refine ard_call (dgw p1 0 2 rfl ?_) | refine ar_call (cgw p2 0 2 rfl ?_) | refine ard_call (dgw p2 0 2 rfl ?_) | fail); simp -implicitDefEqProofs) | refine hK _ ?_ | refine hK _ _ (by rfl) ?_ | fail)
  refine fin_fall (fin_gw rfl ?_); simp -implicitDefEqProofs [FinG, resV, resT] <;> try rfl
set_option maxRecDepth 100000 in
set_option maxHeartbeats 4000000 in
theorem block_row (LL : List (Nat × Array Value)) (x : Lab) (l : List VT) (Ws : List (List ByteArray)) (hl : l.length = Ws.length) (hn : l.length ≤ 1000000) (ih : ∀ (i : Nat) t W, l[i]? = some t → Ws[i]? = some W → ∀ L : List ByteArray, L.length + 3 * W.length ≤ 1000000 → PRow LL 120 [vT t] L W) (L : List ByteArray) (hL : L.length + 3 * ([sBra] ++ (pre [] Ws ++ [sKet])).length ≤ 1000000) : PRow LL 85 [vT (.mk x l)] L ([sBra] ++ (pre [] Ws ++ [sKet])) := by
  have hc : (if (⟨#[]⟩ : ByteArray) = ⟨#[]⟩ then ([] : List ByteArray) else [⟨#[]⟩]) = [] := if_pos rfl
  have pl := fun L' hL' => pplist_row LL 120 ⟨#[]⟩ l Ws hl hn ih L' hL'
  rw [hc] at pl
  simp only [List.length_append, List.length_singleton] at hL
  have p1 := put_row LL L [sBra] (by simp; omega)
  have p2 := pl (L ++ [sBra]) (by simp; omega)
  have p3 := put_row LL (L ++ [sBra] ++ pre [] Ws) [sKet] (by simp; omega)
  generalize pre [] Ws = PW at *
  clear pl
  refine row_of Tryz.func85 rfl rfl (Nat.le_of_ble_eq_true rfl) ?_
  repeat' (first | refine aw_seq ?_ | refine aw_skip ?_ | refine aw_block ?_ | refine aw_exit ?_ | refine aw_ct rfl ?_ | refine aw_cf rfl ?_ | ((first | refine aw_reg (fun K hK => ?_) | refine aw_drw mixd (fun K hK => ?_) | refine ar_call (cgw p1 0 2 rfl ?_) | refine ard_call (dgw p1 0 2 rfl ?_) | refine ar_call (cgw p2 0 2 rfl ?_) | refine ard_call (dgw p2 0 2 rfl ?_) | refine ar_call (cgw p3 0 2 rfl ?_) | refine ard_call (dgw p3 0 2 rfl ?_) | fail); simp -implicitDefEqProofs) | refine hK _ ?_ | refine hK _ _ (by rfl) ?_ | fail)
  refine fin_fall (fin_gw rfl ?_); simp -implicitDefEqProofs [FinG, resV, resT] <;> try rfl
set_option maxRecDepth 100000 in
set_option maxHeartbeats 4000000 in
theorem pbranch_row (LL : List (Nat × Array Value)) (hLL : LibN LL) (x a c e : Lab) (al cl el : List VT) (A C E : List ByteArray) (ha : WE (.mk a al) A) (ic : ∀ L : List ByteArray, L.length + 3 * C.length ≤ 1000000 → PRow LL 85 [vT (.mk c cl)] L C) (hn : el ≠ []) (ie : ∀ L : List ByteArray, L.length + 3 * E.length ≤ 1000000 → PRow LL 85 [vT (.mk e el)] L E) (L : List ByteArray) (hL : L.length + 3 * ([wIf] ++ (A ++ (C ++ ([wElse] ++ E)))).length ≤ 1000000) : PRow LL 138 [vT (.mk x [.mk a al, .mk c cl, .mk e el])] L ([wIf] ++ (A ++ (C ++ ([wElse] ++ E)))) := by
  have q0 := part_row x [.mk a al, .mk c cl, .mk e el] 0 (.mk a al) rfl (by decide)
  have q1 := part_row x [.mk a al, .mk c cl, .mk e el] 1 (.mk c cl) rfl (by decide)
  have q2 := part_row x [.mk a al, .mk c cl, .mk e el] 2 (.mk e el) rfl (by decide)
  simp only [List.length_append, List.length_singleton] at hL
  have hn' : 0 < el.length := List.length_pos_iff.2 hn
  have p1 := put_row LL L [wIf] (by simp; omega)
  have p2 := pexp_row LL hLL ha (L ++ [wIf]) (by simp; omega)
  have p3 := ic (L ++ [wIf] ++ A) (by simp; omega)
  have p4 := put_row LL (L ++ [wIf] ++ A ++ C) [wElse] (by simp; omega)
  have p5 := ie (L ++ [wIf] ++ A ++ C ++ [wElse]) (by simp; omega)
  refine row_of Tryz.func138 rfl rfl (Nat.le_of_ble_eq_true rfl) ?_
  repeat' (first | refine aw_seq ?_ | refine aw_skip ?_ | refine aw_block ?_ | refine aw_exit ?_ | refine aw_ct rfl ?_ | refine aw_cf rfl ?_ | ((first | refine aw_reg (fun K hK => ?_) | refine aw_drw mixd (fun K hK => ?_) | refine ar_call (cp q0 ?_) | refine ard_call (dp q0 ?_) | refine ar_call (cp q1 ?_) | refine ard_call (dp q1 ?_) | refine ar_call (cp q2 ?_) | refine ard_call (dp q2 ?_) | refine ar_call (cgw p1 0 2 rfl ?_) | refine ard_call (dgw p1 0 2 rfl ?_) | refine ar_call (cgw p2 0 2 rfl ?_) | refine ard_call (dgw p2 0 2 rfl ?_) | refine ar_call (cgw p3 0 2 rfl ?_) | refine ard_call (dgw p3 0 2 rfl ?_) | refine ar_call (cgw p4 0 2 rfl ?_) | refine ard_call (dgw p4 0 2 rfl ?_) | refine ar_call (cgw p5 0 2 rfl ?_) | refine ard_call (dgw p5 0 2 rfl ?_) | fail); simp -implicitDefEqProofs [hn', hn]) | refine hK _ ?_ | refine hK _ _ (by rfl) ?_ | fail)
  refine fin_fall (fin_gw rfl ?_); simp -implicitDefEqProofs [FinG, resV, resT] <;> try rfl
set_option maxRecDepth 100000 in
set_option maxHeartbeats 4000000 in
theorem branch0_row (LL : List (Nat × Array Value)) (hLL : LibN LL) (x a c e : Lab) (al cl : List VT) (A C : List ByteArray) (ha : WE (.mk a al) A) (ic : ∀ L : List ByteArray, L.length + 3 * C.length ≤ 1000000 → PRow LL 85 [vT (.mk c cl)] L C) (L : List ByteArray) (hL : L.length + 3 * ([wIf] ++ (A ++ C)).length ≤ 1000000) : PRow LL 138 [vT (.mk x [.mk a al, .mk c cl, .mk e []])] L ([wIf] ++ (A ++ C)) := by
  have q0 := part_row x [.mk a al, .mk c cl, .mk e []] 0 (.mk a al) rfl (by decide)
  have q1 := part_row x [.mk a al, .mk c cl, .mk e []] 1 (.mk c cl) rfl (by decide)
  have q2 := part_row x [.mk a al, .mk c cl, .mk e []] 2 (.mk e []) rfl (by decide)
  simp only [List.length_append, List.length_singleton] at hL
  have p1 := put_row LL L [wIf] (by simp; omega)
  have p2 := pexp_row LL hLL ha (L ++ [wIf]) (by simp; omega)
  have p3 := ic (L ++ [wIf] ++ A) (by simp; omega)
  refine row_of Tryz.func138 rfl rfl (Nat.le_of_ble_eq_true rfl) ?_
  repeat' (first | refine aw_seq ?_ | refine aw_skip ?_ | refine aw_block ?_ | refine aw_exit ?_ | refine aw_ct rfl ?_ | refine aw_cf rfl ?_ | ((first | refine aw_reg (fun K hK => ?_) | refine aw_drw mixd (fun K hK => ?_) | refine ar_call (cp q0 ?_) | refine ard_call (dp q0 ?_) | refine ar_call (cp q1 ?_) | refine ard_call (dp q1 ?_) | refine ar_call (cp q2 ?_) | refine ard_call (dp q2 ?_) | refine ar_call (cgw p1 0 2 rfl ?_) | refine ard_call (dgw p1 0 2 rfl ?_) | refine ar_call (cgw p2 0 2 rfl ?_) | refine ard_call (dgw p2 0 2 rfl ?_) | refine ar_call (cgw p3 0 2 rfl ?_) | refine ard_call (dgw p3 0 2 rfl ?_) | fail); simp -implicitDefEqProofs) | refine hK _ ?_ | refine hK _ _ (by rfl) ?_ | fail)
  refine fin_fall (fin_gw rfl ?_); simp -implicitDefEqProofs [FinG, resV, resT] <;> try rfl
end Go.Proofs.YtlkggpjdaaglmaaGreatDoor.am
end
section
namespace Go.Proofs.YtlkggpjdaaglmaaGreatDoor.am
open Go.ChangeShapes Go.WideShapes Go.ChangeAt Go.RowKit
open vt
set_option linter.unusedVariables false
set_option linter.unusedSimpArgs false
set_option maxRecDepth 100000 in
set_option maxHeartbeats 4000000 in
theorem pstm_row (LL : List (Nat × Array Value)) (hLL : LibN LL) {t : VT} {W : List ByteArray} (hW : WS t W) : (∀ L : List ByteArray, L.length + 3 * W.length ≤ 1000000 → PRow LL 120 [vT t] L W) ∧ (t.lab.k = 29 → ∀ L : List ByteArray, L.length + 3 * W.length ≤ 1000000 → PRow LL 85 [vT t] L W) := by
  have nb : ∀ {x : Lab} {l : List VT} {W : List ByteArray} {c : Int}, x.k = c → c ≠ 29 → ((Tr.mk x l).lab.k = 29 → ∀ L : List ByteArray, L.length + 3 * W.length ≤ 1000000 → PRow LL 85 [vT (Tr.mk x l)] L W) := fun {x l W c} h hc hk => absurd (h.symm.trans hk) hc
  induction hW with
  | blk x l Ws h hl hw ih =>
    have k := ws_kids hl (fun i t W a b => ws_ne (hw i t W a b)) []
    have hb : ∀ L : List ByteArray, L.length + 3 * ([sBra] ++ (pre [] Ws ++ [sKet])).length ≤ 1000000 → PRow LL 85 [vT (.mk x l)] L ([sBra] ++ (pre [] Ws ++ [sKet])) := fun L hL => block_row LL x l Ws hl (by simp only [List.length_append] at hL; omega) (fun i t W a b => (ih i t W a b).1) L hL
    refine ⟨fun L hL => ?_, fun _ => hb⟩
    have p := hb L hL
    generalize [sBra] ++ (pre [] Ws ++ [sKet]) = R at *
    refine row_of Tryz.func120 rfl rfl (Nat.le_of_ble_eq_true rfl) ?_
    repeat' (first | refine aw_seq ?_ | refine aw_skip ?_ | refine aw_block ?_ | refine aw_exit ?_ | refine aw_ct rfl ?_ | refine aw_cf rfl ?_ | ((first | refine aw_reg (fun K hK => ?_) | refine aw_drw mixd (fun K hK => ?_) | refine ar_call (cgw p 0 2 rfl ?_) | refine ard_call (dgw p 0 2 rfl ?_) | fail); simp -implicitDefEqProofs [h]) | refine hK _ ?_ | refine hK _ _ (by rfl) ?_ | fail)
    refine fin_fall (fin_gw rfl ?_); simp -implicitDefEqProofs [FinG, resV, resT] <;> try rfl
  | lt x a al A h hs ha =>
    refine ⟨fun L hL => ?_, nb h (by decide)⟩
    simp only [List.length_append, List.length_singleton] at hL
    have q0 := part_row x [.mk a al] 0 (.mk a al) rfl (by decide)
    have p1 := put_row LL L [wLet] (by simp; omega)
    have p2 := name_row LL (L ++ [wLet]) x.s (by simp; omega)
    have p3 := put_row LL (L ++ [wLet] ++ [x.s]) [sIs] (by simp; omega)
    have p4 := pclosed_row LL hLL ha (L ++ [wLet] ++ [x.s] ++ [sIs]) (by simp; omega)
    refine row_of Tryz.func120 rfl rfl (Nat.le_of_ble_eq_true rfl) ?_
    repeat' (first | refine aw_seq ?_ | refine aw_skip ?_ | refine aw_block ?_ | refine aw_exit ?_ | refine aw_ct rfl ?_ | refine aw_cf rfl ?_ | ((first | refine aw_reg (fun K hK => ?_) | refine aw_drw mixd (fun K hK => ?_) | refine ar_call (cp q0 ?_) | refine ard_call (dp q0 ?_) | refine ar_call (cgw p1 0 2 rfl ?_) | refine ard_call (dgw p1 0 2 rfl ?_) | refine ar_call (cgw p2 0 2 rfl ?_) | refine ard_call (dgw p2 0 2 rfl ?_) | refine ar_call (cgw p3 0 2 rfl ?_) | refine ard_call (dgw p3 0 2 rfl ?_) | refine ar_call (cgw p4 0 2 rfl ?_) | refine ard_call (dgw p4 0 2 rfl ?_) | fail); simp -implicitDefEqProofs [h]) | refine hK _ ?_ | refine hK _ _ (by rfl) ?_ | fail)
    refine fin_fall (fin_gw rfl ?_); simp -implicitDefEqProofs [FinG, resV, resT] <;> try rfl
  | new x a al A h hs ha =>
    refine ⟨fun L hL => ?_, nb h (by decide)⟩
    simp only [List.length_append, List.length_singleton] at hL
    have p1 := put_row LL L [wLet] (by simp; omega)
    have p2 := field_row LL hLL x a al ha (L ++ [wLet]) (by simp; omega)
    refine row_of Tryz.func120 rfl rfl (Nat.le_of_ble_eq_true rfl) ?_
    repeat' (first | refine aw_seq ?_ | refine aw_skip ?_ | refine aw_block ?_ | refine aw_exit ?_ | refine aw_ct rfl ?_ | refine aw_cf rfl ?_ | ((first | refine aw_reg (fun K hK => ?_) | refine aw_drw mixd (fun K hK => ?_) | refine ar_call (cgw p1 0 2 rfl ?_) | refine ard_call (dgw p1 0 2 rfl ?_) | refine ar_call (cgw p2 0 2 rfl ?_) | refine ard_call (dgw p2 0 2 rfl ?_) | fail); simp -implicitDefEqProofs [h]) | refine hK _ ?_ | refine hK _ _ (by rfl) ?_ | fail)
    refine fin_fall (fin_gw rfl ?_); simp -implicitDefEqProofs [FinG, resV, resT] <;> try rfl
  | set' x a c al cl A C h ha hc =>
    refine ⟨fun L hL => ?_, nb h (by decide)⟩
    simp only [List.length_append, List.length_singleton] at hL
    have q0 := part_row x [.mk a al, .mk c cl] 0 (.mk a al) rfl (by decide)
    have q1 := part_row x [.mk a al, .mk c cl] 1 (.mk c cl) rfl (by decide)
    have p1 := pexp_row LL hLL ha L (by omega)
    have p2 := put_row LL (L ++ A) [sIs] (by simp; omega)
    have p3 := pclosed_row LL hLL hc (L ++ A ++ [sIs]) (by simp; omega)
    refine row_of Tryz.func120 rfl rfl (Nat.le_of_ble_eq_true rfl) ?_
    repeat' (first | refine aw_seq ?_ | refine aw_skip ?_ | refine aw_block ?_ | refine aw_exit ?_ | refine aw_ct rfl ?_ | refine aw_cf rfl ?_ | ((first | refine aw_reg (fun K hK => ?_) | refine aw_drw mixd (fun K hK => ?_) | refine ar_call (cp q0 ?_) | refine ard_call (dp q0 ?_) | refine ar_call (cp q1 ?_) | refine ard_call (dp q1 ?_) | refine ar_call (cgw p1 0 2 rfl ?_) | refine ard_call (dgw p1 0 2 rfl ?_) | refine ar_call (cgw p2 0 2 rfl ?_) | refine ard_call (dgw p2 0 2 rfl ?_) | refine ar_call (cgw p3 0 2 rfl ?_) | refine ard_call (dgw p3 0 2 rfl ?_) | fail); simp -implicitDefEqProofs [h]) | refine hK _ ?_ | refine hK _ _ (by rfl) ?_ | fail)
    refine fin_fall (fin_gw rfl ?_); simp -implicitDefEqProofs [FinG, resV, resT] <;> try rfl
  | ifn x a c e al cl A C h ha hk hc ic =>
    refine ⟨fun L hL => ?_, nb h (by decide)⟩
    have p := branch0_row LL hLL x a c e al cl A C ha (ic.2 hk) L hL
    generalize [wIf] ++ (A ++ C) = R at *
    refine row_of Tryz.func120 rfl rfl (Nat.le_of_ble_eq_true rfl) ?_
    repeat' (first | refine aw_seq ?_ | refine aw_skip ?_ | refine aw_block ?_ | refine aw_exit ?_ | refine aw_ct rfl ?_ | refine aw_cf rfl ?_ | ((first | refine aw_reg (fun K hK => ?_) | refine aw_drw mixd (fun K hK => ?_) | refine ar_call (cgw p 0 2 rfl ?_) | refine ard_call (dgw p 0 2 rfl ?_) | fail); simp -implicitDefEqProofs [h]) | refine hK _ ?_ | refine hK _ _ (by rfl) ?_ | fail)
    refine fin_fall (fin_gw rfl ?_); simp -implicitDefEqProofs [FinG, resV, resT] <;> try rfl
  | ife x a c e al cl el A C E h ha hk hc he hn hE ic iE =>
    refine ⟨fun L hL => ?_, nb h (by decide)⟩
    have p := pbranch_row LL hLL x a c e al cl el A C E ha (ic.2 hk) hn (iE.2 he) L hL
    generalize [wIf] ++ (A ++ (C ++ ([wElse] ++ E))) = R at *
    refine row_of Tryz.func120 rfl rfl (Nat.le_of_ble_eq_true rfl) ?_
    repeat' (first | refine aw_seq ?_ | refine aw_skip ?_ | refine aw_block ?_ | refine aw_exit ?_ | refine aw_ct rfl ?_ | refine aw_cf rfl ?_ | ((first | refine aw_reg (fun K hK => ?_) | refine aw_drw mixd (fun K hK => ?_) | refine ar_call (cgw p 0 2 rfl ?_) | refine ard_call (dgw p 0 2 rfl ?_) | fail); simp -implicitDefEqProofs [h]) | refine hK _ ?_ | refine hK _ _ (by rfl) ?_ | fail)
    refine fin_fall (fin_gw rfl ?_); simp -implicitDefEqProofs [FinG, resV, resT] <;> try rfl
  | whl x a c al cl A C h ha hk hc ic =>
    refine ⟨fun L hL => ?_, nb h (by decide)⟩
    simp only [List.length_append, List.length_singleton] at hL
    have q0 := part_row x [.mk a al, .mk c cl] 0 (.mk a al) rfl (by decide)
    have q1 := part_row x [.mk a al, .mk c cl] 1 (.mk c cl) rfl (by decide)
    have p1 := put_row LL L [wWhil] (by simp; omega)
    have p2 := pexp_row LL hLL ha (L ++ [wWhil]) (by simp; omega)
    have p3 := ic.2 hk (L ++ [wWhil] ++ A) (by simp; omega)
    refine row_of Tryz.func120 rfl rfl (Nat.le_of_ble_eq_true rfl) ?_
    repeat' (first | refine aw_seq ?_ | refine aw_skip ?_ | refine aw_block ?_ | refine aw_exit ?_ | refine aw_ct rfl ?_ | refine aw_cf rfl ?_ | ((first | refine aw_reg (fun K hK => ?_) | refine aw_drw mixd (fun K hK => ?_) | refine ar_call (cp q0 ?_) | refine ard_call (dp q0 ?_) | refine ar_call (cp q1 ?_) | refine ard_call (dp q1 ?_) | refine ar_call (cgw p1 0 2 rfl ?_) | refine ard_call (dgw p1 0 2 rfl ?_) | refine ar_call (cgw p2 0 2 rfl ?_) | refine ard_call (dgw p2 0 2 rfl ?_) | refine ar_call (cgw p3 0 2 rfl ?_) | refine ard_call (dgw p3 0 2 rfl ?_) | fail); simp -implicitDefEqProofs [h]) | refine hK _ ?_ | refine hK _ _ (by rfl) ?_ | fail)
    refine fin_fall (fin_gw rfl ?_); simp -implicitDefEqProofs [FinG, resV, resT] <;> try rfl
  | frr x a b c al bl cl A B C h hs ha hb hk hc ic =>
    refine ⟨fun L hL => ?_, nb h (by decide)⟩
    simp only [List.length_append, List.length_singleton] at hL
    have q0 := part_row x [.mk a al, .mk b bl, .mk c cl] 0 (.mk a al) rfl (by decide)
    have q1 := part_row x [.mk a al, .mk b bl, .mk c cl] 1 (.mk b bl) rfl (by decide)
    have q2 := part_row x [.mk a al, .mk b bl, .mk c cl] 2 (.mk c cl) rfl (by decide)
    have p1 := put_row LL L [wFor] (by simp; omega)
    have p2 := name_row LL (L ++ [wFor]) x.s (by simp; omega)
    have p3 := put_row LL (L ++ [wFor] ++ [x.s]) [sIs] (by simp; omega)
    have p4 := pexp_row LL hLL ha (L ++ [wFor] ++ [x.s] ++ [sIs]) (by simp; omega)
    have p5 := put_row LL (L ++ [wFor] ++ [x.s] ++ [sIs] ++ A) [wTo] (by simp; omega)
    have p6 := pexp_row LL hLL hb (L ++ [wFor] ++ [x.s] ++ [sIs] ++ A ++ [wTo]) (by simp; omega)
    have p7 := ic.2 hk (L ++ [wFor] ++ [x.s] ++ [sIs] ++ A ++ [wTo] ++ B) (by simp; omega)
    refine row_of Tryz.func120 rfl rfl (Nat.le_of_ble_eq_true rfl) ?_
    repeat' (first | refine aw_seq ?_ | refine aw_skip ?_ | refine aw_block ?_ | refine aw_exit ?_ | refine aw_ct rfl ?_ | refine aw_cf rfl ?_ | ((first | refine aw_reg (fun K hK => ?_) | refine aw_drw mixd (fun K hK => ?_) | refine ar_call (cp q0 ?_) | refine ard_call (dp q0 ?_) | refine ar_call (cp q1 ?_) | refine ard_call (dp q1 ?_) | refine ar_call (cp q2 ?_) | refine ard_call (dp q2 ?_) | refine ar_call (cgw p1 0 2 rfl ?_) | refine ard_call (dgw p1 0 2 rfl ?_) | refine ar_call (cgw p2 0 2 rfl ?_) | refine ard_call (dgw p2 0 2 rfl ?_) | refine ar_call (cgw p3 0 2 rfl ?_) | refine ard_call (dgw p3 0 2 rfl ?_) | refine ar_call (cgw p4 0 2 rfl ?_) | refine ard_call (dgw p4 0 2 rfl ?_) | refine ar_call (cgw p5 0 2 rfl ?_) | refine ard_call (dgw p5 0 2 rfl ?_) | refine ar_call (cgw p6 0 2 rfl ?_) | refine ard_call (dgw p6 0 2 rfl ?_) | refine ar_call (cgw p7 0 2 rfl ?_) | refine ard_call (dgw p7 0 2 rfl ?_) | fail); simp -implicitDefEqProofs [h]) | refine hK _ ?_ | refine hK _ _ (by rfl) ?_ | fail)
    refine fin_fall (fin_gw rfl ?_); simp -implicitDefEqProofs [FinG, resV, resT] <;> try rfl
  | prn x a al A h ha =>
    refine ⟨fun L hL => ?_, nb h (by decide)⟩
    simp only [List.length_append, List.length_singleton] at hL
    have q0 := part_row x [.mk a al] 0 (.mk a al) rfl (by decide)
    have p1 := put_row LL L [wPrin] (by simp; omega)
    have p4 := pclosed_row LL hLL ha (L ++ [wPrin]) (by simp; omega)
    refine row_of Tryz.func120 rfl rfl (Nat.le_of_ble_eq_true rfl) ?_
    repeat' (first | refine aw_seq ?_ | refine aw_skip ?_ | refine aw_block ?_ | refine aw_exit ?_ | refine aw_ct rfl ?_ | refine aw_cf rfl ?_ | ((first | refine aw_reg (fun K hK => ?_) | refine aw_drw mixd (fun K hK => ?_) | refine ar_call (cp q0 ?_) | refine ard_call (dp q0 ?_) | refine ar_call (cgw p1 0 2 rfl ?_) | refine ard_call (dgw p1 0 2 rfl ?_) | refine ar_call (cgw p4 0 2 rfl ?_) | refine ard_call (dgw p4 0 2 rfl ?_) | fail); simp -implicitDefEqProofs [h]) | refine hK _ ?_ | refine hK _ _ (by rfl) ?_ | fail)
    refine fin_fall (fin_gw rfl ?_); simp -implicitDefEqProofs [FinG, resV, resT] <;> try rfl
  | rtn x a al A h ha =>
    refine ⟨fun L hL => ?_, nb h (by decide)⟩
    simp only [List.length_append, List.length_singleton] at hL
    have q0 := part_row x [.mk a al] 0 (.mk a al) rfl (by decide)
    have p1 := put_row LL L [wRet] (by simp; omega)
    have p4 := pclosed_row LL hLL ha (L ++ [wRet]) (by simp; omega)
    refine row_of Tryz.func120 rfl rfl (Nat.le_of_ble_eq_true rfl) ?_
    repeat' (first | refine aw_seq ?_ | refine aw_skip ?_ | refine aw_block ?_ | refine aw_exit ?_ | refine aw_ct rfl ?_ | refine aw_cf rfl ?_ | ((first | refine aw_reg (fun K hK => ?_) | refine aw_drw mixd (fun K hK => ?_) | refine ar_call (cp q0 ?_) | refine ard_call (dp q0 ?_) | refine ar_call (cgw p1 0 2 rfl ?_) | refine ard_call (dgw p1 0 2 rfl ?_) | refine ar_call (cgw p4 0 2 rfl ?_) | refine ard_call (dgw p4 0 2 rfl ?_) | fail); simp -implicitDefEqProofs [h]) | refine hK _ ?_ | refine hK _ _ (by rfl) ?_ | fail)
    refine fin_fall (fin_gw rfl ?_); simp -implicitDefEqProofs [FinG, resV, resT] <;> try rfl
  | doo x a al A h ha =>
    refine ⟨fun L hL => ?_, nb h (by decide)⟩
    simp only [List.length_append, List.length_singleton] at hL
    have q0 := part_row x [.mk a al] 0 (.mk a al) rfl (by decide)
    have p1 := put_row LL L [wDo] (by simp; omega)
    have p4 := pclosed_row LL hLL ha (L ++ [wDo]) (by simp; omega)
    refine row_of Tryz.func120 rfl rfl (Nat.le_of_ble_eq_true rfl) ?_
    repeat' (first | refine aw_seq ?_ | refine aw_skip ?_ | refine aw_block ?_ | refine aw_exit ?_ | refine aw_ct rfl ?_ | refine aw_cf rfl ?_ | ((first | refine aw_reg (fun K hK => ?_) | refine aw_drw mixd (fun K hK => ?_) | refine ar_call (cp q0 ?_) | refine ard_call (dp q0 ?_) | refine ar_call (cgw p1 0 2 rfl ?_) | refine ard_call (dgw p1 0 2 rfl ?_) | refine ar_call (cgw p4 0 2 rfl ?_) | refine ard_call (dgw p4 0 2 rfl ?_) | fail); simp -implicitDefEqProofs [h]) | refine hK _ ?_ | refine hK _ _ (by rfl) ?_ | fail)
    refine fin_fall (fin_gw rfl ?_); simp -implicitDefEqProofs [FinG, resV, resT] <;> try rfl
end Go.Proofs.YtlkggpjdaaglmaaGreatDoor.am
end
section
namespace Go.Proofs.YtlkggpjdaaglmaaGreatDoor.am
open Go.ChangeShapes Go.WideShapes Go.ChangeAt Go.RowKit
open vt
set_option linter.unusedVariables false
set_option linter.unusedSimpArgs false
theorem wf_ne {t : VT} {W : List ByteArray} (h : WF t W) : W ≠ [] := by cases h; simp
theorem wd_ne {t : VT} {W : List ByteArray} (h : WD t W) : W ≠ [] := by cases h <;> simp
set_option maxRecDepth 100000 in
set_option maxHeartbeats 4000000 in
theorem func_row (LL : List (Nat × Array Value)) (hLL : LibN LL) (x p r b : Lab) (pl rl bl : List VT) (Ws : List (List ByteArray)) (R B : List ByteArray) (hl : pl.length = Ws.length) (hw : ∀ (i : Nat) t W, pl[i]? = some t → Ws[i]? = some W → WF t W) (hr : WTp (.mk r rl) R) (hk : b.k = 29) (hb : WS (.mk b bl) B) (V : List ByteArray) (hv : (x.n = 0 ∧ V = []) ∨ (x.n = 1 ∧ V = [wPub])) (L : List ByteArray) (hL : L.length + 3 * (V ++ ([wFn] ++ ([x.s] ++ ([sParO] ++ (pre [sCom] Ws ++ ([sParS] ++ ([sCol] ++ (R ++ B)))))))).length ≤ 1000000) : PRow LL 47 [vT (.mk x [.mk p pl, .mk r rl, .mk b bl])] L (V ++ ([wFn] ++ ([x.s] ++ ([sParO] ++ (pre [sCom] Ws ++ ([sParS] ++ ([sCol] ++ (R ++ B)))))))) := by
  have hc : (if sCom = ⟨#[]⟩ then [] else [sCom]) = [sCom] := if_neg (by decide)
  have k := ws_kids hl (fun i t W a b => wf_ne (hw i t W a b)) [sCom]
  have pp : ∀ (i : Nat) t W, pl[i]? = some t → Ws[i]? = some W → ∀ L : List ByteArray, L.length + 3 * W.length ≤ 1000000 → PRow LL 80 [vT t] L W := fun i t W ea eb L hL => by
    have h := hw i t W ea eb
    cases h with
    | mk x a al A hs ha => simp only [List.length_append, List.length_singleton] at hL; exact param_row LL hLL x a al ha L (by omega)
  have q0 := part_row x [.mk p pl, .mk r rl, .mk b bl] 0 (.mk p pl) rfl (by decide)
  have q1 := part_row x [.mk p pl, .mk r rl, .mk b bl] 1 (.mk r rl) rfl (by decide)
  have q2 := part_row x [.mk p pl, .mk r rl, .mk b bl] 2 (.mk b bl) rfl (by decide)
  simp only [List.length_append, List.length_singleton] at hL
  have pl' := fun L' hL' => pplist_row LL 80 sCom pl Ws hl (by omega) pp L' hL'
  rw [hc] at pl'
  have hv' : V.length ≤ 1 := by rcases hv with ⟨_, rfl⟩ | ⟨_, rfl⟩ <;> simp
  have p1 := put_row LL (L ++ V) [wFn] (by simp; omega)
  have p2 := name_row LL (L ++ V ++ [wFn]) x.s (by simp; omega)
  have p3 := put_row LL (L ++ V ++ [wFn] ++ [x.s]) [sParO] (by simp; omega)
  have p4 := pl' (L ++ V ++ [wFn] ++ [x.s] ++ [sParO]) (by simp; omega)
  have p5 := put_row LL (L ++ V ++ [wFn] ++ [x.s] ++ [sParO] ++ pre [sCom] Ws) [sParS, sCol] (by simp; omega)
  have p6 := ptyp_row LL hLL hr (L ++ V ++ [wFn] ++ [x.s] ++ [sParO] ++ pre [sCom] Ws ++ [sParS, sCol]) (by simp; omega)
  have p7 := (pstm_row LL hLL hb).2 hk (L ++ V ++ [wFn] ++ [x.s] ++ [sParO] ++ pre [sCom] Ws ++ [sParS, sCol] ++ R) (by simp; omega)
  generalize pre [sCom] Ws = PW at *
  clear pl' pp
  rcases hv with ⟨hn, rfl⟩ | ⟨hn, rfl⟩
  · rw [List.append_nil] at p1 p2 p3 p4 p5 p6 p7
    refine row_of Tryz.func47 rfl rfl (Nat.le_of_ble_eq_true rfl) ?_
    repeat' (first | refine aw_seq ?_ | refine aw_skip ?_ | refine aw_block ?_ | refine aw_exit ?_ | refine aw_ct rfl ?_ | refine aw_cf rfl ?_ | ((first | refine aw_reg (fun K hK => ?_) | refine aw_drw mixd (fun K hK => ?_) | refine ar_call (cp q0 ?_) | refine ard_call (dp q0 ?_) | refine ar_call (cp q1 ?_) | refine ard_call (dp q1 ?_) | refine ar_call (cp q2 ?_) | refine ard_call (dp q2 ?_) | refine ar_call (cgw p1 0 2 rfl ?_) | refine ard_call (dgw p1 0 2 rfl ?_) | refine ar_call (cgw p2 0 2 rfl ?_) | refine ard_call (dgw p2 0 2 rfl ?_) | refine ar_call (cgw p3 0 2 rfl ?_) | refine ard_call (dgw p3 0 2 rfl ?_) | refine ar_call (cgw p4 0 2 rfl ?_) | refine ard_call (dgw p4 0 2 rfl ?_) | refine ar_call (cgw p5 0 2 rfl ?_) | refine ard_call (dgw p5 0 2 rfl ?_) | refine ar_call (cgw p6 0 2 rfl ?_) | refine ard_call (dgw p6 0 2 rfl ?_) | refine ar_call (cgw p7 0 2 rfl ?_) | refine ard_call (dgw p7 0 2 rfl ?_) | fail); simp -implicitDefEqProofs [hn]) | refine hK _ ?_ | refine hK _ _ (by rfl) ?_ | fail)
    refine fin_fall (fin_gw rfl ?_); simp -implicitDefEqProofs [FinG, resV, resT] <;> try rfl
  · have p0 := put_row LL L [wPub] (by simp; omega)
    refine row_of Tryz.func47 rfl rfl (Nat.le_of_ble_eq_true rfl) ?_
    repeat' (first | refine aw_seq ?_ | refine aw_skip ?_ | refine aw_block ?_ | refine aw_exit ?_ | refine aw_ct rfl ?_ | refine aw_cf rfl ?_ | ((first | refine aw_reg (fun K hK => ?_) | refine aw_drw mixd (fun K hK => ?_) | refine ar_call (cp q0 ?_) | refine ard_call (dp q0 ?_) | refine ar_call (cp q1 ?_) | refine ard_call (dp q1 ?_) | refine ar_call (cp q2 ?_) | refine ard_call (dp q2 ?_) | refine ar_call (cgw p0 0 2 rfl ?_) | refine ard_call (dgw p0 0 2 rfl ?_) | refine ar_call (cgw p1 0 2 rfl ?_) | refine ard_call (dgw p1 0 2 rfl ?_) | refine ar_call (cgw p2 0 2 rfl ?_) | refine ard_call (dgw p2 0 2 rfl ?_) | refine ar_call (cgw p3 0 2 rfl ?_) | refine ard_call (dgw p3 0 2 rfl ?_) | refine ar_call (cgw p4 0 2 rfl ?_) | refine ard_call (dgw p4 0 2 rfl ?_) | refine ar_call (cgw p5 0 2 rfl ?_) | refine ard_call (dgw p5 0 2 rfl ?_) | refine ar_call (cgw p6 0 2 rfl ?_) | refine ard_call (dgw p6 0 2 rfl ?_) | refine ar_call (cgw p7 0 2 rfl ?_) | refine ard_call (dgw p7 0 2 rfl ?_) | fail); simp -implicitDefEqProofs [hn]) | refine hK _ ?_ | refine hK _ _ (by rfl) ?_ | fail)
    refine fin_fall (fin_gw rfl ?_); simp -implicitDefEqProofs [FinG, resV, resT] <;> try rfl
set_option maxRecDepth 100000 in
set_option maxHeartbeats 4000000 in
theorem pdecl_row (LL : List (Nat × Array Value)) (hLL : LibN LL) {t : VT} {W : List ByteArray} (hW : WD t W) (L : List ByteArray) (hL : L.length + 3 * W.length ≤ 1000000) : PRow LL 17 [vT t] L W := by
  cases hW with
  | rec' x l Ws h hs hl hw =>
    have hc : (if (⟨#[]⟩ : ByteArray) = ⟨#[]⟩ then ([] : List ByteArray) else [⟨#[]⟩]) = [] := if_pos rfl
    have hl2 : l.length = (Ws.map (· ++ [sEnd])).length := by rw [List.length_map]; exact hl
    have pp : ∀ (i : Nat) t W, l[i]? = some t → (Ws.map (· ++ [sEnd]))[i]? = some W → ∀ L : List ByteArray, L.length + 3 * W.length ≤ 1000000 → PRow LL 44 [vT t] L W := fun i t W ea eb L hL => by
      rw [List.getElem?_map] at eb
      obtain ⟨W', hW', rfl⟩ := Option.map_eq_some_iff.1 eb
      have h := hw i t W' ea hW'
      cases h with
      | mk x a al A hs ha =>
        simp only [List.length_append, List.length_singleton] at hL
        have e : [x.s] ++ ([sCol] ++ A) ++ [sEnd] = [x.s] ++ ([sCol] ++ (A ++ [sEnd])) := by simp
        rw [e]
        exact field_row LL hLL x a al ha L (by omega)
    have k := ws_kids hl2 (fun i t W a b => by
      rw [List.getElem?_map] at b
      obtain ⟨W', hW', rfl⟩ := Option.map_eq_some_iff.1 b
      simp) []
    simp only [List.length_append, List.length_singleton] at hL
    have pl := fun L' hL' => pplist_row LL 44 ⟨#[]⟩ l (Ws.map (· ++ [sEnd])) hl2 (by omega) pp L' hL'
    rw [hc] at pl
    have p1 := put_row LL L [wRec] (by simp; omega)
    have p2 := name_row LL (L ++ [wRec]) x.s (by simp; omega)
    have p3 := put_row LL (L ++ [wRec] ++ [x.s]) [sBra] (by simp; omega)
    have p4 := pl (L ++ [wRec] ++ [x.s] ++ [sBra]) (by simp only [List.length_append, List.length_singleton]; omega)
    have p5 := put_row LL (L ++ [wRec] ++ [x.s] ++ [sBra] ++ pre [] (Ws.map (· ++ [sEnd]))) [sKet] (by simp only [List.length_append, List.length_singleton]; omega)
    generalize pre [] (Ws.map (· ++ [sEnd])) = PW at *
    clear pl pp
    refine row_of Tryz.func17 rfl rfl (Nat.le_of_ble_eq_true rfl) ?_
    repeat' (first | refine aw_seq ?_ | refine aw_skip ?_ | refine aw_block ?_ | refine aw_exit ?_ | refine aw_ct rfl ?_ | refine aw_cf rfl ?_ | ((first | refine aw_reg (fun K hK => ?_) | refine aw_drw mixd (fun K hK => ?_) | refine ar_call (cgw p1 0 2 rfl ?_) | refine ard_call (dgw p1 0 2 rfl ?_) | refine ar_call (cgw p2 0 2 rfl ?_) | refine ard_call (dgw p2 0 2 rfl ?_) | refine ar_call (cgw p3 0 2 rfl ?_) | refine ard_call (dgw p3 0 2 rfl ?_) | refine ar_call (cgw p4 0 2 rfl ?_) | refine ard_call (dgw p4 0 2 rfl ?_) | refine ar_call (cgw p5 0 2 rfl ?_) | refine ard_call (dgw p5 0 2 rfl ?_) | fail); simp -implicitDefEqProofs [h]) | refine hK _ ?_ | refine hK _ _ (by rfl) ?_ | fail)
    refine fin_fall (fin_gw rfl ?_); simp -implicitDefEqProofs [FinG, resV, resT] <;> try rfl
  | dfn x a al A h hs ha =>
    simp only [List.length_append, List.length_singleton] at hL
    have q0 := part_row x [.mk a al] 0 (.mk a al) rfl (by decide)
    have p1 := put_row LL L [wConst] (by simp; omega)
    have p2 := name_row LL (L ++ [wConst]) x.s (by simp; omega)
    have p3 := put_row LL (L ++ [wConst] ++ [x.s]) [sIs] (by simp; omega)
    have p4 := pexp_row LL hLL ha (L ++ [wConst] ++ [x.s] ++ [sIs]) (by simp; omega)
    have p5 := put_row LL (L ++ [wConst] ++ [x.s] ++ [sIs] ++ A) [sEnd] (by simp; omega)
    refine row_of Tryz.func17 rfl rfl (Nat.le_of_ble_eq_true rfl) ?_
    repeat' (first | refine aw_seq ?_ | refine aw_skip ?_ | refine aw_block ?_ | refine aw_exit ?_ | refine aw_ct rfl ?_ | refine aw_cf rfl ?_ | ((first | refine aw_reg (fun K hK => ?_) | refine aw_drw mixd (fun K hK => ?_) | refine ar_call (cp q0 ?_) | refine ard_call (dp q0 ?_) | refine ar_call (cgw p1 0 2 rfl ?_) | refine ard_call (dgw p1 0 2 rfl ?_) | refine ar_call (cgw p2 0 2 rfl ?_) | refine ard_call (dgw p2 0 2 rfl ?_) | refine ar_call (cgw p3 0 2 rfl ?_) | refine ard_call (dgw p3 0 2 rfl ?_) | refine ar_call (cgw p4 0 2 rfl ?_) | refine ard_call (dgw p4 0 2 rfl ?_) | refine ar_call (cgw p5 0 2 rfl ?_) | refine ard_call (dgw p5 0 2 rfl ?_) | fail); simp -implicitDefEqProofs [h]) | refine hK _ ?_ | refine hK _ _ (by rfl) ?_ | fail)
    refine fin_fall (fin_gw rfl ?_); simp -implicitDefEqProofs [FinG, resV, resT] <;> try rfl
  | var' x a al A h hs ha =>
    simp only [List.length_append, List.length_singleton] at hL
    have p1 := put_row LL L [wVar] (by simp; omega)
    have p2 := field_row LL hLL x a al ha (L ++ [wVar]) (by simp; omega)
    refine row_of Tryz.func17 rfl rfl (Nat.le_of_ble_eq_true rfl) ?_
    repeat' (first | refine aw_seq ?_ | refine aw_skip ?_ | refine aw_block ?_ | refine aw_exit ?_ | refine aw_ct rfl ?_ | refine aw_cf rfl ?_ | ((first | refine aw_reg (fun K hK => ?_) | refine aw_drw mixd (fun K hK => ?_) | refine ar_call (cgw p1 0 2 rfl ?_) | refine ard_call (dgw p1 0 2 rfl ?_) | refine ar_call (cgw p2 0 2 rfl ?_) | refine ard_call (dgw p2 0 2 rfl ?_) | fail); simp -implicitDefEqProofs [h]) | refine hK _ ?_ | refine hK _ _ (by rfl) ?_ | fail)
    refine fin_fall (fin_gw rfl ?_); simp -implicitDefEqProofs [FinG, resV, resT] <;> try rfl
  | fn x p r b pl rl bl Ws R B h hn hs hl hw hr hk hb =>
    have p1 := func_row LL hLL x p r b pl rl bl Ws R B hl hw hr hk hb [] (.inl ⟨hn, rfl⟩) L hL
    rw [List.nil_append] at p1
    generalize [wFn] ++ ([x.s] ++ ([sParO] ++ (pre [sCom] Ws ++ ([sParS] ++ ([sCol] ++ (R ++ B)))))) = RR at *
    refine row_of Tryz.func17 rfl rfl (Nat.le_of_ble_eq_true rfl) ?_
    repeat' (first | refine aw_seq ?_ | refine aw_skip ?_ | refine aw_block ?_ | refine aw_exit ?_ | refine aw_ct rfl ?_ | refine aw_cf rfl ?_ | ((first | refine aw_reg (fun K hK => ?_) | refine aw_drw mixd (fun K hK => ?_) | refine ar_call (cgw p1 0 2 rfl ?_) | refine ard_call (dgw p1 0 2 rfl ?_) | fail); simp -implicitDefEqProofs [h]) | refine hK _ ?_ | refine hK _ _ (by rfl) ?_ | fail)
    refine fin_fall (fin_gw rfl ?_); simp -implicitDefEqProofs [FinG, resV, resT] <;> try rfl
  | pub x p r b pl rl bl Ws R B h hn hs hl hw hr hk hb =>
    have p1 := func_row LL hLL x p r b pl rl bl Ws R B hl hw hr hk hb [wPub] (.inr ⟨hn, rfl⟩) L hL
    generalize [wPub] ++ ([wFn] ++ ([x.s] ++ ([sParO] ++ (pre [sCom] Ws ++ ([sParS] ++ ([sCol] ++ (R ++ B))))))) = RR at *
    refine row_of Tryz.func17 rfl rfl (Nat.le_of_ble_eq_true rfl) ?_
    repeat' (first | refine aw_seq ?_ | refine aw_skip ?_ | refine aw_block ?_ | refine aw_exit ?_ | refine aw_ct rfl ?_ | refine aw_cf rfl ?_ | ((first | refine aw_reg (fun K hK => ?_) | refine aw_drw mixd (fun K hK => ?_) | refine ar_call (cgw p1 0 2 rfl ?_) | refine ard_call (dgw p1 0 2 rfl ?_) | fail); simp -implicitDefEqProofs [h]) | refine hK _ ?_ | refine hK _ _ (by rfl) ?_ | fail)
    refine fin_fall (fin_gw rfl ?_); simp -implicitDefEqProofs [FinG, resV, resT] <;> try rfl
end Go.Proofs.YtlkggpjdaaglmaaGreatDoor.am
end
section
namespace Go.Proofs.YtlkggpjdaaglmaaGreatDoor.am
open Go.ChangeShapes Go.WideShapes Go.ChangeAt Go.RowKit
open vt
set_option linter.unusedVariables false
set_option linter.unusedSimpArgs false
theorem join_row (W : List ByteArray) (hW : W ≠ []) (hl : W.length ≤ 1000000) (hs : (J W).size ≤ 1000000000) : Row Tryz.prog 40 [vWs W, vS sp] [] (vS (J W)) [] := by
  refine ⟨⟨_, Tryz.func40, rfl, rfl⟩, spec_of_below (ch := []) fun γ S w vs hm hv => ?_⟩
  match vs, hv with
  | [v0, v1], ⟨k0, k1, _⟩ =>
    obtain ⟨rfl, _⟩ := lit_inv k1
    obtain ⟨a, c, rfl, hsl⟩ := sl_inv k0
    rcases hsl.at' with h0 | ⟨b, off, rfl, hes, hc⟩
    · exact absurd (List.map_eq_nil_iff.1 h0) hW
    have hcell : ∀ (j : Nat) x, W[j]? = some x → b < w.heap.size ∧ w.cell? ⟨b, off + j, none⟩ = some (.string x) := fun j x hx => by
      obtain ⟨h1, u, h2, h3⟩ := hc j [Sx x] 0 (Sx x) (by rw [List.getElem?_map, hx]; rfl) rfl
      rw [Nat.mul_one, Nat.add_zero] at h1 h2
      have h4 := (lit_inv (γ := γ) h3).1
      subst h4
      exact ⟨hm.inb _ _ h1, h2⟩
    have hpos := List.length_pos_iff.2 hW
    have hb := (hcell 0 _ (List.getElem?_eq_getElem hpos)).1
    have hcap := hsl.cap
    rw [List.length_map] at hcap ⊢
    have hjs : (Lib.join (W.map (·.data.toList)) [32]).length = (J W).size := (lx.mk_size _).symm
    refine (Tryz.strings_Join b off c W sp w (fun j x hx => (hcell j x hx).2) hb (by omega) hcap (by show (Lib.join (W.map (·.data.toList)) [32]).length ≤ _; omega)).mono ?_
    rintro e w' ⟨rfl, hbl⟩
    exact ⟨_, rfl, hbl, .lit _ rfl⟩
set_option maxRecDepth 100000 in
set_option maxHeartbeats 4000000 in
theorem textg_row (LL : List (Nat × Array Value)) (g : Nat) (t : VT) (W : List ByteArray) (hW : W ≠ []) (hL : W.length ≤ 1000000) (hs : (J W).size ≤ 1000000000) (p : PRow LL g [vT t] [] W) : Row Tryz.prog 16 [vT t, .v (.c (.fn (.func g) [] []))] [.lib LL] (vS (J W)) [some (.lib LL)] := by
  have j := join_row W hW hL hs
  refine row_of Tryz.func16 rfl rfl (Nat.le_of_ble_eq_true rfl) ?_
  repeat (first | refine aw_seq ?_ | refine aw_skip ?_ | refine aw_block ?_ | refine aw_exit ?_ | refine aw_ct rfl ?_ | refine aw_cf rfl ?_ | ((first | refine aw_reg (fun K hK => ?_) | refine aw_drw mixd (fun K hK => ?_) | fail); simp -implicitDefEqProofs; first | refine hK _ ?_ | refine hK _ _ (by rfl) ?_ | fail) | fail)
  refine aw_nilc 4 0 [.pv .nilS] 9 1 rfl rfl (by simp) ?_
  simp [St.nilc]
  repeat' (first | refine aw_seq ?_ | refine aw_skip ?_ | refine aw_block ?_ | refine aw_exit ?_ | refine aw_ct rfl ?_ | refine aw_cf rfl ?_ | ((first | refine aw_reg (fun K hK => ?_) | refine aw_drw mixd (fun K hK => ?_) | refine ar_call (cgw p 4 0 rfl ?_) | refine ard_call (dgw p 4 0 rfl ?_) | refine ar_call (cp j ?_) | refine ard_call (dp j ?_) | fail); simp -implicitDefEqProofs) | refine hK _ ?_ | refine hK _ _ (by rfl) ?_ | fail)
  refine aw_ret (fin_box ?_); simp -implicitDefEqProofs [FinB, resV, resT] <;> try rfl
end Go.Proofs.YtlkggpjdaaglmaaGreatDoor.am
end
section
namespace Go.Proofs.YtlkggpjdaaglmaaGreatDoor.am
open Go.ChangeShapes Go.WideShapes Go.ChangeAt Go.RowKit
open vt
set_option linter.unusedVariables false
set_option linter.unusedSimpArgs false
theorem text_row (LL : List (Nat × Array Value)) (hLL : LibN LL) {t : VT} {W : List ByteArray} (hW : WD t W) (hL : 3 * W.length ≤ 1000000) (hs : (J W).size ≤ 1000000000) : Row Tryz.prog 16 [vT t, .v (.c (.fn (.func 17) [] []))] [.lib LL] (vS (J W)) [some (.lib LL)] :=
  textg_row LL _ t W (wd_ne hW) (by omega) hs (pdecl_row LL hLL hW [] (by simp; omega))
end Go.Proofs.YtlkggpjdaaglmaaGreatDoor.am
end
