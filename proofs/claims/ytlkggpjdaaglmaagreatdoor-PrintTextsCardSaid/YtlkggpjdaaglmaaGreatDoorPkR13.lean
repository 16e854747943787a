import Derived.Test.YtlkggpjdaaglmaaGreatDoorPkR11
import Derived.Test.YtlkggpjdaaglmaaGreatDoorPkR12
import Derived.Test.YtlkggpjdaaglmaaGreatDoorPkR10
section
namespace Go.Proofs.YtlkggpjdaaglmaaGreatDoor.am
open Go.ChangeShapes Go.WideShapes Go.ChangeAt Go.RowKit
open vt
set_option linter.unusedVariables false
set_option linter.unusedSimpArgs false
set_option maxRecDepth 100000 in
set_option maxHeartbeats 4000000 in
theorem rpblock_row (x : Lab) (l : List VT) (Ws : List (List ByteArray)) (hl : l.length = Ws.length) (hn : l.length ≤ 100000) (hne : ∀ W ∈ Ws, W ≠ []) (hs : Sml (pre [] Ws)) (hL : (pre [] Ws).length ≤ 99990) (he : ∀ (i : Nat) t W, l[i]? = some t → Ws[i]? = some W → Row Tryz.prog 91 [vT t] [] (vS (J W)) []) : Row Tryz.prog 50 [vT (.mk x l)] [] (vS (J ([sBra] ++ (pre [] Ws ++ [sKet])))) [] := by
  have hsp := pre_split [] Ws
  have hstep := fun k W h => pre_take (sep := []) (Ws := Ws) (k := k) (W := W) h
  have hsm : ∀ k, (J ([sBra] ++ pre [] (Ws.take k))).size ≤ 819300000 := fun k => by
    obtain ⟨R, hR⟩ := hsp k
    rw [hR] at hs hL
    rw [List.length_append] at hL
    exact J_sml (sml_app.2 ⟨fun w hw => by rw [List.mem_singleton.1 hw]; decide, (sml_app.1 hs).1⟩) (by simp; omega)
  have h0 : J ([sBra] ++ pre [] (Ws.take 0)) ++ sp = ⟨#[123, 32]⟩ := by
    show J [sBra] ++ sp = _
    rw [J_one]
    simp only [app_lit, List.cons_append, List.nil_append]
  have h0' : J [sBra] ++ sp = ⟨#[123, 32]⟩ := h0
  have hend : J ([sBra] ++ (pre [] Ws ++ [sKet])) = J ([sBra] ++ pre [] (Ws.take Ws.length)) ++ sp ++ ⟨#[125]⟩ := by
    rw [List.take_length, ← List.append_assoc, J_app (by simp) (by simp), J_one]
  have zs : sp.size = 1 := rfl
  have zk : (⟨#[125]⟩ : ByteArray).size = 1 := rfl
  rw [hend]
  refine row_of Tryz.func50 rfl rfl (Nat.le_of_ble_eq_true rfl) ?_
  repeat (first | refine aw_seq ?_ | refine aw_skip ?_ | refine aw_block ?_ | refine aw_exit ?_ | refine aw_cond rfl (fun _ => ?_) (fun hb => absurd hb (by decide)) | refine aw_cond rfl (fun hb => absurd hb (by decide)) (fun _ => ?_) | (refine aw_reg (fun K hK => ?_); simp -implicitDefEqProofs; refine hK _ ?_) | (refine aw_drw mixd (fun K hK => ?_); simp -implicitDefEqProofs; refine hK _ _ (by rfl) ?_) | fail)
  refine aw_lp (ι := Nat) (fun k => mkSt [(1, .v (.c (.ptr 0 0))), (3, vS (J ([sBra] ++ pre [] (Ws.take k)) ++ sp)), (4, vI (k : Nat))] [some (.box (ta (.mk x l)))]) (fun k => k ≤ l.length) (fun k => l.length - k) 0 (Nat.zero_le _) (cov_intro [0] (by simp -implicitDefEqProofs [h0', pre]) (by simp -implicitDefEqProofs [h0', pre]) (by decide) rfl (by simp)) (fun Z hI k hk => ?_)
  by_cases hkl : k < l.length; rotate_left
  · have hke : k = Ws.length := by omega
    subst hke
    have hz := hsm Ws.length
    have hlt : ¬ Ws.length < l.length := by omega
    generalize J ([sBra] ++ pre [] (Ws.take Ws.length)) = D at *
    have b1 : D.size + sp.size + (⟨#[125]⟩ : ByteArray).size ≤ 9223372036854775807 := by omega
    repeat (first | refine aw_seq ?_ | refine aw_skip ?_ | refine aw_block ?_ | refine aw_exit ?_ | refine aw_cond rfl (fun _ => ?_) (fun hb => absurd hb (by decide)) | refine aw_cond rfl (fun hb => absurd hb (by decide)) (fun _ => ?_) | (refine aw_reg (fun K hK => ?_); simp -implicitDefEqProofs [hlt, b1]; refine hK _ ?_) | (refine aw_drw mixd (fun K hK => ?_); simp -implicitDefEqProofs [hlt, b1]; refine hK _ _ (by rfl) ?_) | fail)
    refine aw_ret (fin_ret ?_); simp -implicitDefEqProofs [FinP, resV, resT] <;> try rfl
  obtain ⟨⟨ux, ul⟩, hu⟩ : ∃ a, l[k]? = some a := ⟨_, List.getElem?_eq_getElem hkl⟩
  have hu' := (List.getElem?_eq_some_iff.1 hu).2
  obtain ⟨W, hW⟩ : ∃ a, Ws[k]? = some a := ⟨_, List.getElem?_eq_getElem (by omega)⟩
  have hst := hstep k W hW
  have hWn := hne W (List.mem_of_getElem? hW)
  have q := he k _ W hu hW
  have z1 := hsm (k + 1)
  have z0 := hsm k
  have w2 : IntKind.i64.wrap ((k : Nat) + 1 : Int) = (k : Nat) + 1 := i64i _ (by omega) (by omega)
  have e3 : J ([sBra] ++ pre [] (Ws.take (k + 1))) = J ([sBra] ++ pre [] (Ws.take k)) ++ sp ++ J W := by
    rw [hst, show (if k = 0 then ([] : List ByteArray) else []) = [] by split <;> rfl, List.nil_append, ← List.append_assoc, J_app (by simp) hWn]
  rw [e3, ByteArray.size_append, ByteArray.size_append] at z1
  obtain ⟨T, hT⟩ : ∃ T, J ([sBra] ++ pre [] (Ws.take (k + 1))) = T := ⟨_, rfl⟩
  have hT' : J (sBra :: pre [] (Ws.take (k + 1))) = T := hT
  rw [hT] at e3
  generalize J ([sBra] ++ pre [] (Ws.take k)) = D at *
  generalize J W = E at *
  have b1 : D.size + sp.size + E.size ≤ 9223372036854775807 := by omega
  have b2 : D.size + sp.size + E.size + sp.size ≤ 9223372036854775807 := by omega
  repeat' (first | refine aw_seq ?_ | refine aw_skip ?_ | refine aw_block ?_ | refine aw_exit ?_ | refine aw_cond rfl (fun _ => ?_) (fun hb => absurd hb (by decide)) | refine aw_cond rfl (fun hb => absurd hb (by decide)) (fun _ => ?_) | (refine aw_reg (fun K hK => ?_); simp -implicitDefEqProofs [hkl, hu, hu', b1, b2, w2]) | (refine aw_drw mixd (fun K hK => ?_); simp -implicitDefEqProofs [hkl, hu, hu', b1, b2, w2]) | refine hK _ ?_ | refine hK _ _ (by rfl) ?_ | (refine ar_call (cp q ?_); simp -implicitDefEqProofs [hkl, hu, hu', b1, b2, w2]) | (refine ard_call (dp q ?_); simp -implicitDefEqProofs [hkl, hu, hu', b1, b2, w2]) | fail)
  refine ⟨k + 1, by omega, (by dsimp only; omega), ?_⟩; rw [hI]; exact cov_intro [0] (by simp -implicitDefEqProofs [hT', e3]) (by simp -implicitDefEqProofs [hT', e3]) (by decide) rfl (by simp)
theorem blk_parts {Ws : List (List ByteArray)} {fi la : List ByteArray} (hs : Sml (fi ++ (pre [] Ws ++ la))) (hl : (fi ++ (pre [] Ws ++ la)).length ≤ 90000) : ∀ W ∈ Ws, W.length ≤ 90000 ∧ Sml W := fun W hW => by
  obtain ⟨X, Y, h⟩ := pre_mem [] hW
  have h1 := (sml_app.1 (sml_app.1 hs).2).1
  rw [h] at h1
  simp only [List.length_append] at hl
  have h2 := congrArg List.length h
  simp only [List.length_append] at h2
  exact ⟨by omega, (sml_app.1 (sml_app.1 h1).2).1⟩
set_option maxRecDepth 100000 in
set_option maxHeartbeats 4000000 in
theorem rstm_row {t : VT} {W : List ByteArray} (hW : WS t W) : W.length ≤ 90000 → Sml W → Row Tryz.prog 91 [vT t] [] (vS (J W)) [] ∧ (t.lab.k = 29 → Row Tryz.prog 50 [vT t] [] (vS (J W)) []) := by
  have nb : ∀ {x : Lab} {l : List VT} {V : AV} {c : Int}, x.k = c → c ≠ 29 → ((Tr.mk x l).lab.k = 29 → Row Tryz.prog 50 [vT (Tr.mk x l)] [] V []) := fun {x l V c} h hc hk => absurd (h.symm.trans hk) hc
  induction hW with
  | blk x l Ws h hl hw ih =>
    intro hlen hs
    have k := ws_kids hl (fun i t W a b => ws_ne (hw i t W a b)) []
    have pt := blk_parts hs hlen
    simp only [List.length_append, List.length_singleton] at hlen
    have r := rpblock_row x l Ws hl (by omega) (fun W hW => by
      obtain ⟨i, hi⟩ := List.mem_iff_getElem?.1 hW
      have hlt := (List.getElem?_eq_some_iff.1 hi).1
      exact ws_ne (hw i _ W (List.getElem?_eq_getElem (by omega)) hi)) (sml_app.1 (sml_app.1 hs).2).1 (by omega) (fun i t W a b => (ih i t W a b (pt W (List.mem_of_getElem? b)).1 (pt W (List.mem_of_getElem? b)).2).1)
    refine ⟨?_, fun _ => r⟩
    generalize J ([sBra] ++ (pre [] Ws ++ [sKet])) = D1 at *
    refine row_of Tryz.func91 rfl rfl (Nat.le_of_ble_eq_true rfl) ?_
    repeat' (first | refine aw_seq ?_ | refine aw_skip ?_ | refine aw_block ?_ | refine aw_exit ?_ | refine aw_cond rfl (fun _ => ?_) (fun hb => absurd hb (by decide)) | refine aw_cond rfl (fun hb => absurd hb (by decide)) (fun _ => ?_) | (refine aw_reg (fun K hK => ?_); simp -implicitDefEqProofs [h]) | (refine aw_drw mixd (fun K hK => ?_); simp -implicitDefEqProofs [h]) | refine hK _ ?_ | refine hK _ _ (by rfl) ?_ | (refine ar_call (cp r ?_); simp -implicitDefEqProofs [h]) | (refine ard_call (dp r ?_); simp -implicitDefEqProofs [h]) | fail)
    refine aw_ret (fin_ret ?_); simp -implicitDefEqProofs [FinP, resV, resT] <;> try rfl
  | lt x a al A h hsz ha =>
    intro hl hs
    refine ⟨?_, nb h (by decide)⟩
    simp only [sml_app] at hs
    obtain ⟨_, _, _, hsA, _⟩ := hs
    simp only [List.length_append, List.length_singleton] at hl
    have neA : A ≠ [] := we_ne ha
    have zA := J_sml hsA (by omega)
    have rA := rexp_row ha (by omega) hsA
    have q : J ([wLet] ++ ([x.s] ++ ([sIs] ++ (A ++ [sEnd])))) = ⟨#[108, 101, 116, 32]⟩ ++ x.s ++ ⟨#[32, 61, 32]⟩ ++ J A ++ ⟨#[32, 59]⟩ := by
      rw [J_app (A := [wLet]) (B := ([x.s] ++ ([sIs] ++ (A ++ [sEnd])))) (by simp) (by simp), J_app (A := [x.s]) (B := ([sIs] ++ (A ++ [sEnd]))) (by simp) (by simp), J_app (A := [sIs]) (B := (A ++ [sEnd])) (by simp) (by simp), J_app (A := A) (B := [sEnd]) neA (by simp)]
      simp only [J_one, ByteArray.append_assoc, app_lit, app_lit2, List.cons_append, List.nil_append]
    rw [q]
    clear q
    generalize J A = DA at *
    have y1 : (⟨#[108, 101, 116, 32]⟩ : ByteArray).size = 4 := rfl
    have b1 : (⟨#[108, 101, 116, 32]⟩ : ByteArray).size + x.s.size ≤ 9223372036854775807 := by omega
    have y2 : (⟨#[32, 61, 32]⟩ : ByteArray).size = 3 := rfl
    have b2 : (⟨#[108, 101, 116, 32]⟩ : ByteArray).size + x.s.size + (⟨#[32, 61, 32]⟩ : ByteArray).size ≤ 9223372036854775807 := by omega
    have b3 : (⟨#[108, 101, 116, 32]⟩ : ByteArray).size + x.s.size + (⟨#[32, 61, 32]⟩ : ByteArray).size + DA.size ≤ 9223372036854775807 := by omega
    have y3 : (⟨#[32, 59]⟩ : ByteArray).size = 2 := rfl
    have b4 : (⟨#[108, 101, 116, 32]⟩ : ByteArray).size + x.s.size + (⟨#[32, 61, 32]⟩ : ByteArray).size + DA.size + (⟨#[32, 59]⟩ : ByteArray).size ≤ 9223372036854775807 := by omega
    refine row_of Tryz.func91 rfl rfl (Nat.le_of_ble_eq_true rfl) ?_
    repeat' (first | refine aw_seq ?_ | refine aw_skip ?_ | refine aw_block ?_ | refine aw_exit ?_ | refine aw_cond rfl (fun _ => ?_) (fun hb => absurd hb (by decide)) | refine aw_cond rfl (fun hb => absurd hb (by decide)) (fun _ => ?_) | (refine aw_reg (fun K hK => ?_); simp -implicitDefEqProofs [h, b1, b2, b3, b4]) | (refine aw_drw mixd (fun K hK => ?_); simp -implicitDefEqProofs [h, b1, b2, b3, b4]) | refine hK _ ?_ | refine hK _ _ (by rfl) ?_ | (refine ar_call (cp rA ?_); simp -implicitDefEqProofs [h, b1, b2, b3, b4]) | (refine ard_call (dp rA ?_); simp -implicitDefEqProofs [h, b1, b2, b3, b4]) | fail)
    refine aw_ret (fin_ret ?_); simp -implicitDefEqProofs [FinP, resV, resT] <;> try rfl
  | new x a al A h hsz ha =>
    intro hl hs
    refine ⟨?_, nb h (by decide)⟩
    simp only [sml_app] at hs
    obtain ⟨_, _, _, hsA, _⟩ := hs
    simp only [List.length_append, List.length_singleton] at hl
    have neA : A ≠ [] := wt_ne ha
    have zA := J_sml hsA (by omega)
    have rA := rprty_row ha (by omega)
    have q : J ([wLet] ++ ([x.s] ++ ([sCol] ++ (A ++ [sEnd])))) = ⟨#[108, 101, 116, 32]⟩ ++ x.s ++ ⟨#[32, 58, 32]⟩ ++ J A ++ ⟨#[32, 59]⟩ := by
      rw [J_app (A := [wLet]) (B := ([x.s] ++ ([sCol] ++ (A ++ [sEnd])))) (by simp) (by simp), J_app (A := [x.s]) (B := ([sCol] ++ (A ++ [sEnd]))) (by simp) (by simp), J_app (A := [sCol]) (B := (A ++ [sEnd])) (by simp) (by simp), J_app (A := A) (B := [sEnd]) neA (by simp)]
      simp only [J_one, ByteArray.append_assoc, app_lit, app_lit2, List.cons_append, List.nil_append]
    rw [q]
    clear q
    generalize J A = DA at *
    have y1 : (⟨#[108, 101, 116, 32]⟩ : ByteArray).size = 4 := rfl
    have b1 : (⟨#[108, 101, 116, 32]⟩ : ByteArray).size + x.s.size ≤ 9223372036854775807 := by omega
    have y2 : (⟨#[32, 58, 32]⟩ : ByteArray).size = 3 := rfl
    have b2 : (⟨#[108, 101, 116, 32]⟩ : ByteArray).size + x.s.size + (⟨#[32, 58, 32]⟩ : ByteArray).size ≤ 9223372036854775807 := by omega
    have b3 : (⟨#[108, 101, 116, 32]⟩ : ByteArray).size + x.s.size + (⟨#[32, 58, 32]⟩ : ByteArray).size + DA.size ≤ 9223372036854775807 := by omega
    have y3 : (⟨#[32, 59]⟩ : ByteArray).size = 2 := rfl
    have b4 : (⟨#[108, 101, 116, 32]⟩ : ByteArray).size + x.s.size + (⟨#[32, 58, 32]⟩ : ByteArray).size + DA.size + (⟨#[32, 59]⟩ : ByteArray).size ≤ 9223372036854775807 := by omega
    refine row_of Tryz.func91 rfl rfl (Nat.le_of_ble_eq_true rfl) ?_
    repeat' (first | refine aw_seq ?_ | refine aw_skip ?_ | refine aw_block ?_ | refine aw_exit ?_ | refine aw_cond rfl (fun _ => ?_) (fun hb => absurd hb (by decide)) | refine aw_cond rfl (fun hb => absurd hb (by decide)) (fun _ => ?_) | (refine aw_reg (fun K hK => ?_); simp -implicitDefEqProofs [h, b1, b2, b3, b4]) | (refine aw_drw mixd (fun K hK => ?_); simp -implicitDefEqProofs [h, b1, b2, b3, b4]) | refine hK _ ?_ | refine hK _ _ (by rfl) ?_ | (refine ar_call (cp rA ?_); simp -implicitDefEqProofs [h, b1, b2, b3, b4]) | (refine ard_call (dp rA ?_); simp -implicitDefEqProofs [h, b1, b2, b3, b4]) | fail)
    refine aw_ret (fin_ret ?_); simp -implicitDefEqProofs [FinP, resV, resT] <;> try rfl
  | set' x a c al cl A C h ha hc =>
    intro hl hs
    refine ⟨?_, nb h (by decide)⟩
    simp only [sml_app] at hs
    obtain ⟨hsA, _, hsC, _⟩ := hs
    simp only [List.length_append, List.length_singleton] at hl
    have neA : A ≠ [] := we_ne ha
    have zA := J_sml hsA (by omega)
    have rA := rexp_row ha (by omega) hsA
    have neC : C ≠ [] := we_ne hc
    have zC := J_sml hsC (by omega)
    have rC := rexp_row hc (by omega) hsC
    have q : J (A ++ ([sIs] ++ (C ++ [sEnd]))) = J A ++ ⟨#[32, 61, 32]⟩ ++ J C ++ ⟨#[32, 59]⟩ := by
      rw [J_app (A := A) (B := ([sIs] ++ (C ++ [sEnd]))) neA (by simp), J_app (A := [sIs]) (B := (C ++ [sEnd])) (by simp) (by simp), J_app (A := C) (B := [sEnd]) neC (by simp)]
      simp only [J_one, ByteArray.append_assoc, app_lit, app_lit2, List.cons_append, List.nil_append]
    rw [q]
    clear q
    generalize J A = DA at *
    generalize J C = DC at *
    have y1 : (⟨#[32, 61, 32]⟩ : ByteArray).size = 3 := rfl
    have b1 : DA.size + (⟨#[32, 61, 32]⟩ : ByteArray).size ≤ 9223372036854775807 := by omega
    have b2 : DA.size + (⟨#[32, 61, 32]⟩ : ByteArray).size + DC.size ≤ 9223372036854775807 := by omega
    have y2 : (⟨#[32, 59]⟩ : ByteArray).size = 2 := rfl
    have b3 : DA.size + (⟨#[32, 61, 32]⟩ : ByteArray).size + DC.size + (⟨#[32, 59]⟩ : ByteArray).size ≤ 9223372036854775807 := by omega
    refine row_of Tryz.func91 rfl rfl (Nat.le_of_ble_eq_true rfl) ?_
    repeat' (first | refine aw_seq ?_ | refine aw_skip ?_ | refine aw_block ?_ | refine aw_exit ?_ | refine aw_cond rfl (fun _ => ?_) (fun hb => absurd hb (by decide)) | refine aw_cond rfl (fun hb => absurd hb (by decide)) (fun _ => ?_) | (refine aw_reg (fun K hK => ?_); simp -implicitDefEqProofs [h, b1, b2, b3]) | (refine aw_drw mixd (fun K hK => ?_); simp -implicitDefEqProofs [h, b1, b2, b3]) | refine hK _ ?_ | refine hK _ _ (by rfl) ?_ | (refine ar_call (cp rA ?_); simp -implicitDefEqProofs [h, b1, b2, b3]) | (refine ard_call (dp rA ?_); simp -implicitDefEqProofs [h, b1, b2, b3]) | (refine ar_call (cp rC ?_); simp -implicitDefEqProofs [h, b1, b2, b3]) | (refine ard_call (dp rC ?_); simp -implicitDefEqProofs [h, b1, b2, b3]) | fail)
    refine aw_ret (fin_ret ?_); simp -implicitDefEqProofs [FinP, resV, resT] <;> try rfl
  | ifn x a c e al cl A C h ha hk hc ic =>
    intro hl hs
    refine ⟨?_, nb h (by decide)⟩
    simp only [sml_app] at hs
    obtain ⟨_, hsA, hsC⟩ := hs
    simp only [List.length_append, List.length_singleton] at hl
    have neA : A ≠ [] := we_ne ha
    have zA := J_sml hsA (by omega)
    have rA := rexp_row ha (by omega) hsA
    have neC : C ≠ [] := ws_ne hc
    have zC := J_sml hsC (by omega)
    have rC := (ic (by omega) hsC).2 hk
    have q : J ([wIf] ++ (A ++ C)) = ⟨#[105, 102, 32]⟩ ++ J A ++ ⟨#[32]⟩ ++ J C := by
      rw [J_app (A := [wIf]) (B := (A ++ C)) (by simp) (by simp [neA, neC]), J_app (A := A) (B := C) neA neC]
      simp only [J_one, ByteArray.append_assoc, app_lit, app_lit2, List.cons_append, List.nil_append]
    rw [q]
    clear q
    generalize J A = DA at *
    generalize J C = DC at *
    have y1 : (⟨#[105, 102, 32]⟩ : ByteArray).size = 3 := rfl
    have b1 : (⟨#[105, 102, 32]⟩ : ByteArray).size + DA.size ≤ 9223372036854775807 := by omega
    have y2 : (⟨#[32]⟩ : ByteArray).size = 1 := rfl
    have b2 : (⟨#[105, 102, 32]⟩ : ByteArray).size + DA.size + (⟨#[32]⟩ : ByteArray).size ≤ 9223372036854775807 := by omega
    have b3 : (⟨#[105, 102, 32]⟩ : ByteArray).size + DA.size + (⟨#[32]⟩ : ByteArray).size + DC.size ≤ 9223372036854775807 := by omega
    refine row_of Tryz.func91 rfl rfl (Nat.le_of_ble_eq_true rfl) ?_
    repeat' (first | refine aw_seq ?_ | refine aw_skip ?_ | refine aw_block ?_ | refine aw_exit ?_ | refine aw_cond rfl (fun _ => ?_) (fun hb => absurd hb (by decide)) | refine aw_cond rfl (fun hb => absurd hb (by decide)) (fun _ => ?_) | (refine aw_reg (fun K hK => ?_); simp -implicitDefEqProofs [h, b1, b2, b3]) | (refine aw_drw mixd (fun K hK => ?_); simp -implicitDefEqProofs [h, b1, b2, b3]) | refine hK _ ?_ | refine hK _ _ (by rfl) ?_ | (refine ar_call (cp rA ?_); simp -implicitDefEqProofs [h, b1, b2, b3]) | (refine ard_call (dp rA ?_); simp -implicitDefEqProofs [h, b1, b2, b3]) | (refine ar_call (cp rC ?_); simp -implicitDefEqProofs [h, b1, b2, b3]) | (refine ard_call (dp rC ?_); simp -implicitDefEqProofs [h, b1, b2, b3]) | fail)
    refine aw_ret (fin_ret ?_); simp -implicitDefEqProofs [FinP, resV, resT] <;> try rfl
  | ife x a c e al cl el A C E h ha hk hc he hn hE ic iE =>
    intro hl hs
    refine ⟨?_, nb h (by decide)⟩
    simp only [sml_app] at hs
    obtain ⟨_, hsA, hsC, _, hsE⟩ := hs
    simp only [List.length_append, List.length_singleton] at hl
    have neA : A ≠ [] := we_ne ha
    have zA := J_sml hsA (by omega)
    have rA := rexp_row ha (by omega) hsA
    have neC : C ≠ [] := ws_ne hc
    have zC := J_sml hsC (by omega)
    have rC := (ic (by omega) hsC).2 hk
    have neE : E ≠ [] := ws_ne hE
    have zE := J_sml hsE (by omega)
    have rE := (iE (by omega) hsE).2 he
    have q : J ([wIf] ++ (A ++ (C ++ ([wElse] ++ E)))) = ⟨#[105, 102, 32]⟩ ++ J A ++ ⟨#[32]⟩ ++ J C ++ ⟨#[32, 101, 108, 115, 101, 32]⟩ ++ J E := by
      rw [J_app (A := [wIf]) (B := (A ++ (C ++ ([wElse] ++ E)))) (by simp) (by simp), J_app (A := A) (B := (C ++ ([wElse] ++ E))) neA (by simp), J_app (A := C) (B := ([wElse] ++ E)) neC (by simp), J_app (A := [wElse]) (B := E) (by simp) neE]
      simp only [J_one, ByteArray.append_assoc, app_lit, app_lit2, List.cons_append, List.nil_append]
    rw [q]
    clear q
    generalize J A = DA at *
    generalize J C = DC at *
    generalize J E = DE at *
    have y1 : (⟨#[105, 102, 32]⟩ : ByteArray).size = 3 := rfl
    have b1 : (⟨#[105, 102, 32]⟩ : ByteArray).size + DA.size ≤ 9223372036854775807 := by omega
    have y2 : (⟨#[32]⟩ : ByteArray).size = 1 := rfl
    have b2 : (⟨#[105, 102, 32]⟩ : ByteArray).size + DA.size + (⟨#[32]⟩ : ByteArray).size ≤ 9223372036854775807 := by omega
    have b3 : (⟨#[105, 102, 32]⟩ : ByteArray).size + DA.size + (⟨#[32]⟩ : ByteArray).size + DC.size ≤ 9223372036854775807 := by omega
    have y3 : (⟨#[32, 101, 108, 115, 101, 32]⟩ : ByteArray).size = 6 := rfl
    have b4 : (⟨#[105, 102, 32]⟩ : ByteArray).size + DA.size + (⟨#[32]⟩ : ByteArray).size + DC.size + (⟨#[32, 101, 108, 115, 101, 32]⟩ : ByteArray).size ≤ 9223372036854775807 := by omega
    have b5 : (⟨#[105, 102, 32]⟩ : ByteArray).size + DA.size + (⟨#[32]⟩ : ByteArray).size + DC.size + (⟨#[32, 101, 108, 115, 101, 32]⟩ : ByteArray).size + DE.size ≤ 9223372036854775807 := by omega
    have hn0 : 0 < el.length := List.length_pos_iff.2 hn
    refine row_of Tryz.func91 rfl rfl (Nat.le_of_ble_eq_true rfl) ?_
    repeat' (first | refine aw_seq ?_ | refine aw_skip ?_ | refine aw_block ?_ | refine aw_exit ?_ | refine aw_cond rfl (fun _ => ?_) (fun hb => absurd hb (by decide)) | refine aw_cond rfl (fun hb => absurd hb (by decide)) (fun _ => ?_) | (refine aw_reg (fun K hK => ?_); simp -implicitDefEqProofs [h, hn0, hn, b1, b2, b3, b4, b5]) | (refine aw_drw mixd (fun K hK => ?_); simp -implicitDefEqProofs [h, hn0, hn, b1, b2, b3, b4, b5]) | refine hK _ ?_ | refine hK _ _ (by rfl) ?_ | (refine ar_call (cp rA ?_); simp -implicitDefEqProofs [h, hn0, hn, b1, b2, b3, b4, b5]) | (refine ard_call (dp rA ?_); simp -implicitDefEqProofs [h, hn0, hn, b1, b2, b3, b4, b5]) | (refine ar_call (cp rC ?_); simp -implicitDefEqProofs [h, hn0, hn, b1, b2, b3, b4, b5]) | (refine ard_call (dp rC ?_); simp -implicitDefEqProofs [h, hn0, hn, b1, b2, b3, b4, b5]) | (refine ar_call (cp rE ?_); simp -implicitDefEqProofs [h, hn0, hn, b1, b2, b3, b4, b5]) | (refine ard_call (dp rE ?_); simp -implicitDefEqProofs [h, hn0, hn, b1, b2, b3, b4, b5]) | fail)
    refine aw_ret (fin_ret ?_); simp -implicitDefEqProofs [FinP, resV, resT] <;> try rfl
  | whl x a c al cl A C h ha hk hc ic =>
    intro hl hs
    refine ⟨?_, nb h (by decide)⟩
    simp only [sml_app] at hs
    obtain ⟨_, hsA, hsC⟩ := hs
    simp only [List.length_append, List.length_singleton] at hl
    have neA : A ≠ [] := we_ne ha
    have zA := J_sml hsA (by omega)
    have rA := rexp_row ha (by omega) hsA
    have neC : C ≠ [] := ws_ne hc
    have zC := J_sml hsC (by omega)
    have rC := (ic (by omega) hsC).2 hk
    have q : J ([wWhil] ++ (A ++ C)) = ⟨#[119, 104, 105, 108, 101, 32]⟩ ++ J A ++ ⟨#[32]⟩ ++ J C := by
      rw [J_app (A := [wWhil]) (B := (A ++ C)) (by simp) (by simp [neA, neC]), J_app (A := A) (B := C) neA neC]
      simp only [J_one, ByteArray.append_assoc, app_lit, app_lit2, List.cons_append, List.nil_append]
    rw [q]
    clear q
    generalize J A = DA at *
    generalize J C = DC at *
    have y1 : (⟨#[119, 104, 105, 108, 101, 32]⟩ : ByteArray).size = 6 := rfl
    have b1 : (⟨#[119, 104, 105, 108, 101, 32]⟩ : ByteArray).size + DA.size ≤ 9223372036854775807 := by omega
    have y2 : (⟨#[32]⟩ : ByteArray).size = 1 := rfl
    have b2 : (⟨#[119, 104, 105, 108, 101, 32]⟩ : ByteArray).size + DA.size + (⟨#[32]⟩ : ByteArray).size ≤ 9223372036854775807 := by omega
    have b3 : (⟨#[119, 104, 105, 108, 101, 32]⟩ : ByteArray).size + DA.size + (⟨#[32]⟩ : ByteArray).size + DC.size ≤ 9223372036854775807 := by omega
    refine row_of Tryz.func91 rfl rfl (Nat.le_of_ble_eq_true rfl) ?_
    repeat' (first | refine aw_seq ?_ | refine aw_skip ?_ | refine aw_block ?_ | refine aw_exit ?_ | refine aw_cond rfl (fun _ => ?_) (fun hb => absurd hb (by decide)) | refine aw_cond rfl (fun hb => absurd hb (by decide)) (fun _ => ?_) | (refine aw_reg (fun K hK => ?_); simp -implicitDefEqProofs [h, b1, b2, b3]) | (refine aw_drw mixd (fun K hK => ?_); simp -implicitDefEqProofs [h, b1, b2, b3]) | refine hK _ ?_ | refine hK _ _ (by rfl) ?_ | (refine ar_call (cp rA ?_); simp -implicitDefEqProofs [h, b1, b2, b3]) | (refine ard_call (dp rA ?_); simp -implicitDefEqProofs [h, b1, b2, b3]) | (refine ar_call (cp rC ?_); simp -implicitDefEqProofs [h, b1, b2, b3]) | (refine ard_call (dp rC ?_); simp -implicitDefEqProofs [h, b1, b2, b3]) | fail)
    refine aw_ret (fin_ret ?_); simp -implicitDefEqProofs [FinP, resV, resT] <;> try rfl
  | frr x a b c al bl cl A B C h hsz ha hb hk hc ic =>
    intro hl hs
    refine ⟨?_, nb h (by decide)⟩
    simp only [sml_app] at hs
    obtain ⟨_, _, _, hsA, _, hsB, hsC⟩ := hs
    simp only [List.length_append, List.length_singleton] at hl
    have neA : A ≠ [] := we_ne ha
    have zA := J_sml hsA (by omega)
    have rA := rexp_row ha (by omega) hsA
    have neB : B ≠ [] := we_ne hb
    have zB := J_sml hsB (by omega)
    have rB := rexp_row hb (by omega) hsB
    have neC : C ≠ [] := ws_ne hc
    have zC := J_sml hsC (by omega)
    have rC := (ic (by omega) hsC).2 hk
    have q : J ([wFor] ++ ([x.s] ++ ([sIs] ++ (A ++ ([wTo] ++ (B ++ C)))))) = ⟨#[102, 111, 114, 32]⟩ ++ x.s ++ ⟨#[32, 61, 32]⟩ ++ J A ++ ⟨#[32, 116, 111, 32]⟩ ++ J B ++ ⟨#[32]⟩ ++ J C := by
      rw [J_app (A := [wFor]) (B := ([x.s] ++ ([sIs] ++ (A ++ ([wTo] ++ (B ++ C)))))) (by simp) (by simp), J_app (A := [x.s]) (B := ([sIs] ++ (A ++ ([wTo] ++ (B ++ C))))) (by simp) (by simp), J_app (A := [sIs]) (B := (A ++ ([wTo] ++ (B ++ C)))) (by simp) (by simp), J_app (A := A) (B := ([wTo] ++ (B ++ C))) neA (by simp), J_app (A := [wTo]) (B := (B ++ C)) (by simp) (by simp [neB, neC]), J_app (A := B) (B := C) neB neC]
      simp only [J_one, ByteArray.append_assoc, app_lit, app_lit2, List.cons_append, List.nil_append]
    rw [q]
    clear q
    generalize J A = DA at *
    generalize J B = DB at *
    generalize J C = DC at *
    have y1 : (⟨#[102, 111, 114, 32]⟩ : ByteArray).size = 4 := rfl
    have b1 : (⟨#[102, 111, 114, 32]⟩ : ByteArray).size + x.s.size ≤ 9223372036854775807 := by omega
    have y2 : (⟨#[32, 61, 32]⟩ : ByteArray).size = 3 := rfl
    have b2 : (⟨#[102, 111, 114, 32]⟩ : ByteArray).size + x.s.size + (⟨#[32, 61, 32]⟩ : ByteArray).size ≤ 9223372036854775807 := by omega
    have b3 : (⟨#[102, 111, 114, 32]⟩ : ByteArray).size + x.s.size + (⟨#[32, 61, 32]⟩ : ByteArray).size + DA.size ≤ 9223372036854775807 := by omega
    have y3 : (⟨#[32, 116, 111, 32]⟩ : ByteArray).size = 4 := rfl
    have b4 : (⟨#[102, 111, 114, 32]⟩ : ByteArray).size + x.s.size + (⟨#[32, 61, 32]⟩ : ByteArray).size + DA.size + (⟨#[32, 116, 111, 32]⟩ : ByteArray).size ≤ 9223372036854775807 := by omega
    have b5 : (⟨#[102, 111, 114, 32]⟩ : ByteArray).size + x.s.size + (⟨#[32, 61, 32]⟩ : ByteArray).size + DA.size + (⟨#[32, 116, 111, 32]⟩ : ByteArray).size + DB.size ≤ 9223372036854775807 := by omega
    have y4 : (⟨#[32]⟩ : ByteArray).size = 1 := rfl
    have b6 : (⟨#[102, 111, 114, 32]⟩ : ByteArray).size + x.s.size + (⟨#[32, 61, 32]⟩ : ByteArray).size + DA.size + (⟨#[32, 116, 111, 32]⟩ : ByteArray).size + DB.size + (⟨#[32]⟩ : ByteArray).size ≤ 9223372036854775807 := by omega
    have b7 : (⟨#[102, 111, 114, 32]⟩ : ByteArray).size + x.s.size + (⟨#[32, 61, 32]⟩ : ByteArray).size + DA.size + (⟨#[32, 116, 111, 32]⟩ : ByteArray).size + DB.size + (⟨#[32]⟩ : ByteArray).size + DC.size ≤ 9223372036854775807 := by omega
    refine row_of Tryz.func91 rfl rfl (Nat.le_of_ble_eq_true rfl) ?_
    repeat' (first | refine aw_seq ?_ | refine aw_skip ?_ | refine aw_block ?_ | refine aw_exit ?_ | refine aw_cond rfl (fun _ => ?_) (fun hb => absurd hb (by decide)) | refine aw_cond rfl (fun hb => absurd hb (by decide)) (fun _ => ?_) | (refine aw_reg (fun K hK => ?_); simp -implicitDefEqProofs [h, b1, b2, b3, b4, b5, b6, b7]) | (refine aw_drw mixd (fun K hK => ?_); simp -implicitDefEqProofs [h, b1, b2, b3, b4, b5, b6, b7]) | refine hK _ ?_ | refine hK _ _ (by rfl) ?_ | (refine ar_call (cp rA ?_); simp -implicitDefEqProofs [h, b1, b2, b3, b4, b5, b6, b7]) | (refine ard_call (dp rA ?_); simp -implicitDefEqProofs [h, b1, b2, b3, b4, b5, b6, b7]) | (refine ar_call (cp rB ?_); simp -implicitDefEqProofs [h, b1, b2, b3, b4, b5, b6, b7]) | (refine ard_call (dp rB ?_); simp -implicitDefEqProofs [h, b1, b2, b3, b4, b5, b6, b7]) | (refine ar_call (cp rC ?_); simp -implicitDefEqProofs [h, b1, b2, b3, b4, b5, b6, b7]) | (refine ard_call (dp rC ?_); simp -implicitDefEqProofs [h, b1, b2, b3, b4, b5, b6, b7]) | fail)
    refine aw_ret (fin_ret ?_); simp -implicitDefEqProofs [FinP, resV, resT] <;> try rfl
  | prn x a al A h ha =>
    intro hl hs
    refine ⟨?_, nb h (by decide)⟩
    simp only [sml_app] at hs
    obtain ⟨_, hsA, _⟩ := hs
    simp only [List.length_append, List.length_singleton] at hl
    have neA : A ≠ [] := we_ne ha
    have zA := J_sml hsA (by omega)
    have rA := rexp_row ha (by omega) hsA
    have q : J ([wPrin] ++ (A ++ [sEnd])) = ⟨#[112, 114, 105, 110, 116, 32]⟩ ++ J A ++ ⟨#[32, 59]⟩ := by
      rw [J_app (A := [wPrin]) (B := (A ++ [sEnd])) (by simp) (by simp), J_app (A := A) (B := [sEnd]) neA (by simp)]
      simp only [J_one, ByteArray.append_assoc, app_lit, app_lit2, List.cons_append, List.nil_append]
    rw [q]
    clear q
    generalize J A = DA at *
    have y1 : (⟨#[112, 114, 105, 110, 116, 32]⟩ : ByteArray).size = 6 := rfl
    have b1 : (⟨#[112, 114, 105, 110, 116, 32]⟩ : ByteArray).size + DA.size ≤ 9223372036854775807 := by omega
    have y2 : (⟨#[32, 59]⟩ : ByteArray).size = 2 := rfl
    have b2 : (⟨#[112, 114, 105, 110, 116, 32]⟩ : ByteArray).size + DA.size + (⟨#[32, 59]⟩ : ByteArray).size ≤ 9223372036854775807 := by omega
    refine row_of Tryz.func91 rfl rfl (Nat.le_of_ble_eq_true rfl) ?_
    repeat' (first | refine aw_seq ?_ | refine aw_skip ?_ | refine aw_block ?_ | refine aw_exit ?_ | refine aw_cond rfl (fun _ => ?_) (fun hb => absurd hb (by decide)) | refine aw_cond rfl (fun hb => absurd hb (by decide)) (fun _ => ?_) | (refine aw_reg (fun K hK => ?_); simp -implicitDefEqProofs [h, b1, b2]) | (refine aw_drw mixd (fun K hK => ?_); simp -implicitDefEqProofs [h, b1, b2]) | refine hK _ ?_ | refine hK _ _ (by rfl) ?_ | (refine ar_call (cp rA ?_); simp -implicitDefEqProofs [h, b1, b2]) | (refine ard_call (dp rA ?_); simp -implicitDefEqProofs [h, b1, b2]) | fail)
    refine aw_ret (fin_ret ?_); simp -implicitDefEqProofs [FinP, resV, resT] <;> try rfl
  | rtn x a al A h ha =>
    intro hl hs
    refine ⟨?_, nb h (by decide)⟩
    simp only [sml_app] at hs
    obtain ⟨_, hsA, _⟩ := hs
    simp only [List.length_append, List.length_singleton] at hl
    have neA : A ≠ [] := we_ne ha
    have zA := J_sml hsA (by omega)
    have rA := rexp_row ha (by omega) hsA
    have q : J ([wRet] ++ (A ++ [sEnd])) = ⟨#[114, 101, 116, 117, 114, 110, 32]⟩ ++ J A ++ ⟨#[32, 59]⟩ := by
      rw [J_app (A := [wRet]) (B := (A ++ [sEnd])) (by simp) (by simp), J_app (A := A) (B := [sEnd]) neA (by simp)]
      simp only [J_one, ByteArray.append_assoc, app_lit, app_lit2, List.cons_append, List.nil_append]
    rw [q]
    clear q
    generalize J A = DA at *
    have y1 : (⟨#[114, 101, 116, 117, 114, 110, 32]⟩ : ByteArray).size = 7 := rfl
    have b1 : (⟨#[114, 101, 116, 117, 114, 110, 32]⟩ : ByteArray).size + DA.size ≤ 9223372036854775807 := by omega
    have y2 : (⟨#[32, 59]⟩ : ByteArray).size = 2 := rfl
    have b2 : (⟨#[114, 101, 116, 117, 114, 110, 32]⟩ : ByteArray).size + DA.size + (⟨#[32, 59]⟩ : ByteArray).size ≤ 9223372036854775807 := by omega
    refine row_of Tryz.func91 rfl rfl (Nat.le_of_ble_eq_true rfl) ?_
    repeat' (first | refine aw_seq ?_ | refine aw_skip ?_ | refine aw_block ?_ | refine aw_exit ?_ | refine aw_cond rfl (fun _ => ?_) (fun hb => absurd hb (by decide)) | refine aw_cond rfl (fun hb => absurd hb (by decide)) (fun _ => ?_) | (refine aw_reg (fun K hK => ?_); simp -implicitDefEqProofs [h, b1, b2]) | (refine aw_drw mixd (fun K hK => ?_); simp -implicitDefEqProofs [h, b1, b2]) | refine hK _ ?_ | refine hK _ _ (by rfl) ?_ | (refine ar_call (cp rA ?_); simp -implicitDefEqProofs [h, b1, b2]) | (refine ard_call (dp rA ?_); simp -implicitDefEqProofs [h, b1, b2]) | fail)
    refine aw_ret (fin_ret ?_); simp -implicitDefEqProofs [FinP, resV, resT] <;> try rfl
  | doo x a al A h ha =>
    intro hl hs
    refine ⟨?_, nb h (by decide)⟩
    simp only [sml_app] at hs
    obtain ⟨_, hsA, _⟩ := hs
    simp only [List.length_append, List.length_singleton] at hl
    have neA : A ≠ [] := we_ne ha
    have zA := J_sml hsA (by omega)
    have rA := rexp_row ha (by omega) hsA
    have q : J ([wDo] ++ (A ++ [sEnd])) = ⟨#[100, 111, 32]⟩ ++ J A ++ ⟨#[32, 59]⟩ := by
      rw [J_app (A := [wDo]) (B := (A ++ [sEnd])) (by simp) (by simp), J_app (A := A) (B := [sEnd]) neA (by simp)]
      simp only [J_one, ByteArray.append_assoc, app_lit, app_lit2, List.cons_append, List.nil_append]
    rw [q]
    clear q
    generalize J A = DA at *
    have y1 : (⟨#[100, 111, 32]⟩ : ByteArray).size = 3 := rfl
    have b1 : (⟨#[100, 111, 32]⟩ : ByteArray).size + DA.size ≤ 9223372036854775807 := by omega
    have y2 : (⟨#[32, 59]⟩ : ByteArray).size = 2 := rfl
    have b2 : (⟨#[100, 111, 32]⟩ : ByteArray).size + DA.size + (⟨#[32, 59]⟩ : ByteArray).size ≤ 9223372036854775807 := by omega
    refine row_of Tryz.func91 rfl rfl (Nat.le_of_ble_eq_true rfl) ?_
    repeat' (first | refine aw_seq ?_ | refine aw_skip ?_ | refine aw_block ?_ | refine aw_exit ?_ | refine aw_cond rfl (fun _ => ?_) (fun hb => absurd hb (by decide)) | refine aw_cond rfl (fun hb => absurd hb (by decide)) (fun _ => ?_) | (refine aw_reg (fun K hK => ?_); simp -implicitDefEqProofs [h, b1, b2]) | (refine aw_drw mixd (fun K hK => ?_); simp -implicitDefEqProofs [h, b1, b2]) | refine hK _ ?_ | refine hK _ _ (by rfl) ?_ | (refine ar_call (cp rA ?_); simp -implicitDefEqProofs [h, b1, b2]) | (refine ard_call (dp rA ?_); simp -implicitDefEqProofs [h, b1, b2]) | fail)
    refine aw_ret (fin_ret ?_); simp -implicitDefEqProofs [FinP, resV, resT] <;> try rfl
end Go.Proofs.YtlkggpjdaaglmaaGreatDoor.am
end
section
namespace Go.Proofs.YtlkggpjdaaglmaaGreatDoor.am
open Go.ChangeShapes Go.WideShapes Go.ChangeAt Go.RowKit
open vt
set_option linter.unusedVariables false
set_option linter.unusedSimpArgs false
theorem wf_ne {t : VT} {W : List ByteArray} (h : WF t W) : W ≠ [] := by cases h; simp
theorem wd_ne {t : VT} {W : List ByteArray} (h : WD t W) : W ≠ [] := by cases h <;> simp
set_option maxRecDepth 100000 in
set_option maxHeartbeats 4000000 in
theorem func_row (LL : List (Nat × Array Value)) (hLL : LibN LL) (x p r b : Lab) (pl rl bl : List VT) (Ws : List (List ByteArray)) (R B : List ByteArray) (hl : pl.length = Ws.length) (hw : ∀ (i : Nat) t W, pl[i]? = some t → Ws[i]? = some W → WF t W) (hr : WT (.mk r rl) R) (hk : b.k = 29) (hb : WS (.mk b bl) B) (V : List ByteArray) (hv : (x.n = 0 ∧ V = []) ∨ (x.n = 1 ∧ V = [wPub])) (L : List ByteArray) (hL : L.length + 3 * (V ++ ([wFn] ++ ([x.s] ++ ([sParO] ++ (pre [sCom] Ws ++ ([sParS] ++ ([sCol] ++ (R ++ B)))))))).length ≤ 1000000) : PRow LL 47 [vT (.mk x [.mk p pl, .mk r rl, .mk b bl])] L (V ++ ([wFn] ++ ([x.s] ++ ([sParO] ++ (pre [sCom] Ws ++ ([sParS] ++ ([sCol] ++ (R ++ B)))))))) := by
  have hc : (if sCom = ⟨#[]⟩ then [] else [sCom]) = [sCom] := if_neg (by decide)
  have k := ws_kids hl (fun i t W a b => wf_ne (hw i t W a b)) [sCom]
  have pp : ∀ (i : Nat) t W, pl[i]? = some t → Ws[i]? = some W → ∀ L : List ByteArray, L.length + 3 * W.length ≤ 1000000 → PRow LL 80 [vT t] L W := fun i t W ea eb L hL => by
    have h := hw i t W ea eb
    cases h with
    | mk x a al A hs ha => simp only [List.length_append, List.length_singleton] at hL; exact param_row LL hLL x a al ha L (by omega)
  have q0 := part_row x [.mk p pl, .mk r rl, .mk b bl] 0 (.mk p pl) rfl (by decide)
  have q1 := part_row x [.mk p pl, .mk r rl, .mk b bl] 1 (.mk r rl) rfl (by decide)
  have q2 := part_row x [.mk p pl, .mk r rl, .mk b bl] 2 (.mk b bl) rfl (by decide)
  simp only [List.length_append, List.length_singleton] at hL
  have pl' := fun L' hL' => plist_row LL 80 sCom pl Ws hl (by omega) pp L' hL'
  rw [hc] at pl'
  have hv' : V.length ≤ 1 := by rcases hv with ⟨_, rfl⟩ | ⟨_, rfl⟩ <;> simp
  have p1 := put_row LL (L ++ V) [wFn] (by simp; omega)
  have p2 := name_row LL (L ++ V ++ [wFn]) x.s (by simp; omega)
  have p3 := put_row LL (L ++ V ++ [wFn] ++ [x.s]) [sParO] (by simp; omega)
  have p4 := pl' (L ++ V ++ [wFn] ++ [x.s] ++ [sParO]) (by simp; omega)
  have p5 := put_row LL (L ++ V ++ [wFn] ++ [x.s] ++ [sParO] ++ pre [sCom] Ws) [sParS, sCol] (by simp; omega)
  have p6 := ptyp_row LL hLL hr (L ++ V ++ [wFn] ++ [x.s] ++ [sParO] ++ pre [sCom] Ws ++ [sParS, sCol]) (by simp; omega)
  have p7 := (pstm_row LL hLL hb).2 hk (L ++ V ++ [wFn] ++ [x.s] ++ [sParO] ++ pre [sCom] Ws ++ [sParS, sCol] ++ R) (by simp; omega)
  generalize pre [sCom] Ws = PW at *
  clear pl' pp
  rcases hv with ⟨hn, rfl⟩ | ⟨hn, rfl⟩
  · rw [List.append_nil] at p1 p2 p3 p4 p5 p6 p7
    refine row_of Tryz.func47 rfl rfl (Nat.le_of_ble_eq_true rfl) ?_
    repeat' (first | refine aw_seq ?_ | refine aw_skip ?_ | refine aw_block ?_ | refine aw_exit ?_ | refine aw_cond rfl (fun _ => ?_) (fun hb => absurd hb (by decide)) | refine aw_cond rfl (fun hb => absurd hb (by decide)) (fun _ => ?_) | (refine aw_reg (fun K hK => ?_); simp -implicitDefEqProofs [hn]) | (refine aw_drw mixd (fun K hK => ?_); simp -implicitDefEqProofs [hn]) | refine hK _ ?_ | refine hK _ _ (by rfl) ?_ | (refine ar_call (cp q0 ?_); simp -implicitDefEqProofs [hn]) | (refine ard_call (dp q0 ?_); simp -implicitDefEqProofs [hn]) | (refine ar_call (cp q1 ?_); simp -implicitDefEqProofs [hn]) | (refine ard_call (dp q1 ?_); simp -implicitDefEqProofs [hn]) | (refine ar_call (cp q2 ?_); simp -implicitDefEqProofs [hn]) | (refine ard_call (dp q2 ?_); simp -implicitDefEqProofs [hn]) | (refine ar_call (cgw p1 0 2 rfl ?_); simp -implicitDefEqProofs [hn]) | (refine ard_call (dgw p1 0 2 rfl ?_); simp -implicitDefEqProofs [hn]) | (refine ar_call (cgw p2 0 2 rfl ?_); simp -implicitDefEqProofs [hn]) | (refine ard_call (dgw p2 0 2 rfl ?_); simp -implicitDefEqProofs [hn]) | (refine ar_call (cgw p3 0 2 rfl ?_); simp -implicitDefEqProofs [hn]) | (refine ard_call (dgw p3 0 2 rfl ?_); simp -implicitDefEqProofs [hn]) | (refine ar_call (cgw p4 0 2 rfl ?_); simp -implicitDefEqProofs [hn]) | (refine ard_call (dgw p4 0 2 rfl ?_); simp -implicitDefEqProofs [hn]) | (refine ar_call (cgw p5 0 2 rfl ?_); simp -implicitDefEqProofs [hn]) | (refine ard_call (dgw p5 0 2 rfl ?_); simp -implicitDefEqProofs [hn]) | (refine ar_call (cgw p6 0 2 rfl ?_); simp -implicitDefEqProofs [hn]) | (refine ard_call (dgw p6 0 2 rfl ?_); simp -implicitDefEqProofs [hn]) | (refine ar_call (cgw p7 0 2 rfl ?_); simp -implicitDefEqProofs [hn]) | (refine ard_call (dgw p7 0 2 rfl ?_); simp -implicitDefEqProofs [hn]) | fail)
    refine fin_fall (fin_gw rfl ?_); simp -implicitDefEqProofs [FinG, resV, resT] <;> try rfl
  · have p0 := put_row LL L [wPub] (by simp; omega)
    refine row_of Tryz.func47 rfl rfl (Nat.le_of_ble_eq_true rfl) ?_
    repeat' (first | refine aw_seq ?_ | refine aw_skip ?_ | refine aw_block ?_ | refine aw_exit ?_ | refine aw_cond rfl (fun _ => ?_) (fun hb => absurd hb (by decide)) | refine aw_cond rfl (fun hb => absurd hb (by decide)) (fun _ => ?_) | (refine aw_reg (fun K hK => ?_); simp -implicitDefEqProofs [hn]) | (refine aw_drw mixd (fun K hK => ?_); simp -implicitDefEqProofs [hn]) | refine hK _ ?_ | refine hK _ _ (by rfl) ?_ | (refine ar_call (cp q0 ?_); simp -implicitDefEqProofs [hn]) | (refine ard_call (dp q0 ?_); simp -implicitDefEqProofs [hn]) | (refine ar_call (cp q1 ?_); simp -implicitDefEqProofs [hn]) | (refine ard_call (dp q1 ?_); simp -implicitDefEqProofs [hn]) | (refine ar_call (cp q2 ?_); simp -implicitDefEqProofs [hn]) | (refine ard_call (dp q2 ?_); simp -implicitDefEqProofs [hn]) | (refine ar_call (cgw p0 0 2 rfl ?_); simp -implicitDefEqProofs [hn]) | (refine ard_call (dgw p0 0 2 rfl ?_); simp -implicitDefEqProofs [hn]) | (refine ar_call (cgw p1 0 2 rfl ?_); simp -implicitDefEqProofs [hn]) | (refine ard_call (dgw p1 0 2 rfl ?_); simp -implicitDefEqProofs [hn]) | (refine ar_call (cgw p2 0 2 rfl ?_); simp -implicitDefEqProofs [hn]) | (refine ard_call (dgw p2 0 2 rfl ?_); simp -implicitDefEqProofs [hn]) | (refine ar_call (cgw p3 0 2 rfl ?_); simp -implicitDefEqProofs [hn]) | (refine ard_call (dgw p3 0 2 rfl ?_); simp -implicitDefEqProofs [hn]) | (refine ar_call (cgw p4 0 2 rfl ?_); simp -implicitDefEqProofs [hn]) | (refine ard_call (dgw p4 0 2 rfl ?_); simp -implicitDefEqProofs [hn]) | (refine ar_call (cgw p5 0 2 rfl ?_); simp -implicitDefEqProofs [hn]) | (refine ard_call (dgw p5 0 2 rfl ?_); simp -implicitDefEqProofs [hn]) | (refine ar_call (cgw p6 0 2 rfl ?_); simp -implicitDefEqProofs [hn]) | (refine ard_call (dgw p6 0 2 rfl ?_); simp -implicitDefEqProofs [hn]) | (refine ar_call (cgw p7 0 2 rfl ?_); simp -implicitDefEqProofs [hn]) | (refine ard_call (dgw p7 0 2 rfl ?_); simp -implicitDefEqProofs [hn]) | fail)
    refine fin_fall (fin_gw rfl ?_); simp -implicitDefEqProofs [FinG, resV, resT] <;> try rfl
set_option maxRecDepth 100000 in
set_option maxHeartbeats 4000000 in
theorem pdecl_row (LL : List (Nat × Array Value)) (hLL : LibN LL) {t : VT} {W : List ByteArray} (hW : WD t W) (L : List ByteArray) (hL : L.length + 3 * W.length ≤ 1000000) : PRow LL 17 [vT t] L W := by
  cases hW with
  | rec' x l Ws h hs hl hw =>
    have hc : (if (⟨#[]⟩ : ByteArray) = ⟨#[]⟩ then ([] : List ByteArray) else [⟨#[]⟩]) = [] := if_pos rfl
    have hl2 : l.length = (Ws.map (· ++ [sEnd])).length := by rw [List.length_map]; exact hl
    have pp : ∀ (i : Nat) t W, l[i]? = some t → (Ws.map (· ++ [sEnd]))[i]? = some W → ∀ L : List ByteArray, L.length + 3 * W.length ≤ 1000000 → PRow LL 44 [vT t] L W := fun i t W ea eb L hL => by
      rw [List.getElem?_map] at eb
      obtain ⟨W', hW', rfl⟩ := Option.map_eq_some_iff.1 eb
      have h := hw i t W' ea hW'
      cases h with
      | mk x a al A hs ha =>
        simp only [List.length_append, List.length_singleton] at hL
        have e : [x.s] ++ ([sCol] ++ A) ++ [sEnd] = [x.s] ++ ([sCol] ++ (A ++ [sEnd])) := by simp
        rw [e]
        exact field_row LL hLL x a al ha L (by omega)
    have k := ws_kids hl2 (fun i t W a b => by
      rw [List.getElem?_map] at b
      obtain ⟨W', hW', rfl⟩ := Option.map_eq_some_iff.1 b
      simp) []
    simp only [List.length_append, List.length_singleton] at hL
    have pl := fun L' hL' => plist_row LL 44 ⟨#[]⟩ l (Ws.map (· ++ [sEnd])) hl2 (by omega) pp L' hL'
    rw [hc] at pl
    have p1 := put_row LL L [wRec] (by simp; omega)
    have p2 := name_row LL (L ++ [wRec]) x.s (by simp; omega)
    have p3 := put_row LL (L ++ [wRec] ++ [x.s]) [sBra] (by simp; omega)
    have p4 := pl (L ++ [wRec] ++ [x.s] ++ [sBra]) (by simp only [List.length_append, List.length_singleton]; omega)
    have p5 := put_row LL (L ++ [wRec] ++ [x.s] ++ [sBra] ++ pre [] (Ws.map (· ++ [sEnd]))) [sKet] (by simp only [List.length_append, List.length_singleton]; omega)
    generalize pre [] (Ws.map (· ++ [sEnd])) = PW at *
    clear pl pp
    refine row_of Tryz.func17 rfl rfl (Nat.le_of_ble_eq_true rfl) ?_
    repeat' (first | refine aw_seq ?_ | refine aw_skip ?_ | refine aw_block ?_ | refine aw_exit ?_ | refine aw_cond rfl (fun _ => ?_) (fun hb => absurd hb (by decide)) | refine aw_cond rfl (fun hb => absurd hb (by decide)) (fun _ => ?_) | (refine aw_reg (fun K hK => ?_); simp -implicitDefEqProofs [h]) | (refine aw_drw mixd (fun K hK => ?_); simp -implicitDefEqProofs [h]) | refine hK _ ?_ | refine hK _ _ (by rfl) ?_ | (refine ar_call (cgw p1 0 2 rfl ?_); simp -implicitDefEqProofs [h]) | (refine ard_call (dgw p1 0 2 rfl ?_); simp -implicitDefEqProofs [h]) | (refine ar_call (cgw p2 0 2 rfl ?_); simp -implicitDefEqProofs [h]) | (refine ard_call (dgw p2 0 2 rfl ?_); simp -implicitDefEqProofs [h]) | (refine ar_call (cgw p3 0 2 rfl ?_); simp -implicitDefEqProofs [h]) | (refine ard_call (dgw p3 0 2 rfl ?_); simp -implicitDefEqProofs [h]) | (refine ar_call (cgw p4 0 2 rfl ?_); simp -implicitDefEqProofs [h]) | (refine ard_call (dgw p4 0 2 rfl ?_); simp -implicitDefEqProofs [h]) | (refine ar_call (cgw p5 0 2 rfl ?_); simp -implicitDefEqProofs [h]) | (refine ard_call (dgw p5 0 2 rfl ?_); simp -implicitDefEqProofs [h]) | fail)
    refine fin_fall (fin_gw rfl ?_); simp -implicitDefEqProofs [FinG, resV, resT] <;> try rfl
  | dfn x a al A h hs ha =>
    simp only [List.length_append, List.length_singleton] at hL
    have q0 := part_row x [.mk a al] 0 (.mk a al) rfl (by decide)
    have p1 := put_row LL L [wConst] (by simp; omega)
    have p2 := name_row LL (L ++ [wConst]) x.s (by simp; omega)
    have p3 := put_row LL (L ++ [wConst] ++ [x.s]) [sIs] (by simp; omega)
    have p4 := pexp_row LL hLL ha (L ++ [wConst] ++ [x.s] ++ [sIs]) (by simp; omega)
    have p5 := put_row LL (L ++ [wConst] ++ [x.s] ++ [sIs] ++ A) [sEnd] (by simp; omega)
    refine row_of Tryz.func17 rfl rfl (Nat.le_of_ble_eq_true rfl) ?_
    repeat' (first | refine aw_seq ?_ | refine aw_skip ?_ | refine aw_block ?_ | refine aw_exit ?_ | refine aw_cond rfl (fun _ => ?_) (fun hb => absurd hb (by decide)) | refine aw_cond rfl (fun hb => absurd hb (by decide)) (fun _ => ?_) | (refine aw_reg (fun K hK => ?_); simp -implicitDefEqProofs [h]) | (refine aw_drw mixd (fun K hK => ?_); simp -implicitDefEqProofs [h]) | refine hK _ ?_ | refine hK _ _ (by rfl) ?_ | (refine ar_call (cp q0 ?_); simp -implicitDefEqProofs [h]) | (refine ard_call (dp q0 ?_); simp -implicitDefEqProofs [h]) | (refine ar_call (cgw p1 0 2 rfl ?_); simp -implicitDefEqProofs [h]) | (refine ard_call (dgw p1 0 2 rfl ?_); simp -implicitDefEqProofs [h]) | (refine ar_call (cgw p2 0 2 rfl ?_); simp -implicitDefEqProofs [h]) | (refine ard_call (dgw p2 0 2 rfl ?_); simp -implicitDefEqProofs [h]) | (refine ar_call (cgw p3 0 2 rfl ?_); simp -implicitDefEqProofs [h]) | (refine ard_call (dgw p3 0 2 rfl ?_); simp -implicitDefEqProofs [h]) | (refine ar_call (cgw p4 0 2 rfl ?_); simp -implicitDefEqProofs [h]) | (refine ard_call (dgw p4 0 2 rfl ?_); simp -implicitDefEqProofs [h]) | (refine ar_call (cgw p5 0 2 rfl ?_); simp -implicitDefEqProofs [h]) | (refine ard_call (dgw p5 0 2 rfl ?_); simp -implicitDefEqProofs [h]) | fail)
    refine fin_fall (fin_gw rfl ?_); simp -implicitDefEqProofs [FinG, resV, resT] <;> try rfl
  | var' x a al A h hs ha =>
    simp only [List.length_append, List.length_singleton] at hL
    have p1 := put_row LL L [wVar] (by simp; omega)
    have p2 := field_row LL hLL x a al ha (L ++ [wVar]) (by simp; omega)
    refine row_of Tryz.func17 rfl rfl (Nat.le_of_ble_eq_true rfl) ?_
    repeat' (first | refine aw_seq ?_ | refine aw_skip ?_ | refine aw_block ?_ | refine aw_exit ?_ | refine aw_cond rfl (fun _ => ?_) (fun hb => absurd hb (by decide)) | refine aw_cond rfl (fun hb => absurd hb (by decide)) (fun _ => ?_) | (refine aw_reg (fun K hK => ?_); simp -implicitDefEqProofs [h]) | (refine aw_drw mixd (fun K hK => ?_); simp -implicitDefEqProofs [h]) | refine hK _ ?_ | refine hK _ _ (by rfl) ?_ | (refine ar_call (cgw p1 0 2 rfl ?_); simp -implicitDefEqProofs [h]) | (refine ard_call (dgw p1 0 2 rfl ?_); simp -implicitDefEqProofs [h]) | (refine ar_call (cgw p2 0 2 rfl ?_); simp -implicitDefEqProofs [h]) | (refine ard_call (dgw p2 0 2 rfl ?_); simp -implicitDefEqProofs [h]) | fail)
    refine fin_fall (fin_gw rfl ?_); simp -implicitDefEqProofs [FinG, resV, resT] <;> try rfl
  | fn x p r b pl rl bl Ws R B h hn hs hl hw hr hk hb =>
    have p1 := func_row LL hLL x p r b pl rl bl Ws R B hl hw hr hk hb [] (.inl ⟨hn, rfl⟩) L hL
    rw [List.nil_append] at p1
    generalize [wFn] ++ ([x.s] ++ ([sParO] ++ (pre [sCom] Ws ++ ([sParS] ++ ([sCol] ++ (R ++ B)))))) = RR at *
    refine row_of Tryz.func17 rfl rfl (Nat.le_of_ble_eq_true rfl) ?_
    repeat' (first | refine aw_seq ?_ | refine aw_skip ?_ | refine aw_block ?_ | refine aw_exit ?_ | refine aw_cond rfl (fun _ => ?_) (fun hb => absurd hb (by decide)) | refine aw_cond rfl (fun hb => absurd hb (by decide)) (fun _ => ?_) | (refine aw_reg (fun K hK => ?_); simp -implicitDefEqProofs [h]) | (refine aw_drw mixd (fun K hK => ?_); simp -implicitDefEqProofs [h]) | refine hK _ ?_ | refine hK _ _ (by rfl) ?_ | (refine ar_call (cgw p1 0 2 rfl ?_); simp -implicitDefEqProofs [h]) | (refine ard_call (dgw p1 0 2 rfl ?_); simp -implicitDefEqProofs [h]) | fail)
    refine fin_fall (fin_gw rfl ?_); simp -implicitDefEqProofs [FinG, resV, resT] <;> try rfl
  | pub x p r b pl rl bl Ws R B h hn hs hl hw hr hk hb =>
    have p1 := func_row LL hLL x p r b pl rl bl Ws R B hl hw hr hk hb [wPub] (.inr ⟨hn, rfl⟩) L hL
    generalize [wPub] ++ ([wFn] ++ ([x.s] ++ ([sParO] ++ (pre [sCom] Ws ++ ([sParS] ++ ([sCol] ++ (R ++ B))))))) = RR at *
    refine row_of Tryz.func17 rfl rfl (Nat.le_of_ble_eq_true rfl) ?_
    repeat' (first | refine aw_seq ?_ | refine aw_skip ?_ | refine aw_block ?_ | refine aw_exit ?_ | refine aw_cond rfl (fun _ => ?_) (fun hb => absurd hb (by decide)) | refine aw_cond rfl (fun hb => absurd hb (by decide)) (fun _ => ?_) | (refine aw_reg (fun K hK => ?_); simp -implicitDefEqProofs [h]) | (refine aw_drw mixd (fun K hK => ?_); simp -implicitDefEqProofs [h]) | refine hK _ ?_ | refine hK _ _ (by rfl) ?_ | (refine ar_call (cgw p1 0 2 rfl ?_); simp -implicitDefEqProofs [h]) | (refine ard_call (dgw p1 0 2 rfl ?_); simp -implicitDefEqProofs [h]) | fail)
    refine fin_fall (fin_gw rfl ?_); simp -implicitDefEqProofs [FinG, resV, resT] <;> try rfl
end Go.Proofs.YtlkggpjdaaglmaaGreatDoor.am
end
section
namespace Go.Proofs.YtlkggpjdaaglmaaGreatDoor.am
open Go.ChangeShapes Go.WideShapes Go.ChangeAt Go.RowKit
open vt
set_option linter.unusedVariables false
set_option linter.unusedSimpArgs false
theorem join_row (W : List ByteArray) (hW : W ≠ []) (hl : W.length ≤ 1000000) (hs : (J W).size ≤ 1000000000) : Row Tryz.prog 40 [vWs W, vS sp] [] (vS (J W)) [] := by
  refine ⟨⟨_, Tryz.func40, rfl, rfl⟩, spec_of_below (ch := []) fun γ S w vs hm hv => ?_⟩
  match vs, hv with
  | [v0, v1], ⟨k0, k1, _⟩ =>
    obtain ⟨rfl, _⟩ := lit_inv k1
    obtain ⟨a, c, rfl, hsl⟩ := sl_inv k0
    rcases hsl.at' with h0 | ⟨b, off, rfl, hes, hc⟩
    · exact absurd (List.map_eq_nil_iff.1 h0) hW
    have hcell : ∀ (j : Nat) x, W[j]? = some x → b < w.heap.size ∧ w.cell? ⟨b, off + j, none⟩ = some (.string x) := fun j x hx => by
      obtain ⟨h1, u, h2, h3⟩ := hc j [Sx x] 0 (Sx x) (by rw [List.getElem?_map, hx]; rfl) rfl
      rw [Nat.mul_one, Nat.add_zero] at h1 h2
      have h4 := (lit_inv (γ := γ) h3).1
      subst h4
      exact ⟨hm.inb _ _ h1, h2⟩
    have hpos := List.length_pos_iff.2 hW
    have hb := (hcell 0 _ (List.getElem?_eq_getElem hpos)).1
    have hcap := hsl.cap
    rw [List.length_map] at hcap ⊢
    have hjs : (Lib.join (W.map (·.data.toList)) [32]).length = (J W).size := (lx.mk_size _).symm
    refine (Tryz.strings_Join b off c W sp w (fun j x hx => (hcell j x hx).2) hb (by omega) hcap (by show (Lib.join (W.map (·.data.toList)) [32]).length ≤ _; omega)).mono ?_
    rintro e w' ⟨rfl, hbl⟩
    exact ⟨_, rfl, hbl, .lit _ rfl⟩
set_option maxRecDepth 100000 in
set_option maxHeartbeats 4000000 in
theorem textg_row (LL : List (Nat × Array Value)) (g : Nat) (t : VT) (W : List ByteArray) (hW : W ≠ []) (hL : W.length ≤ 1000000) (hs : (J W).size ≤ 1000000000) (p : PRow LL g [vT t] [] W) : Row Tryz.prog 16 [vT t, .v (.c (.fn (.func g) [] []))] [.lib LL] (vS (J W)) [some (.lib LL)] := by
  have j := join_row W hW hL hs
  refine row_of Tryz.func16 rfl rfl (Nat.le_of_ble_eq_true rfl) ?_
  repeat (first | refine aw_seq ?_ | refine aw_skip ?_ | refine aw_block ?_ | refine aw_exit ?_ | refine aw_cond rfl (fun _ => ?_) (fun hb => absurd hb (by decide)) | refine aw_cond rfl (fun hb => absurd hb (by decide)) (fun _ => ?_) | (refine aw_reg (fun K hK => ?_); simp -implicitDefEqProofs; refine hK _ ?_) | (refine aw_drw mixd (fun K hK => ?_); simp -implicitDefEqProofs; refine hK _ _ (by rfl) ?_) | fail)
  refine aw_nilc 4 0 [.pv .nilS] 9 1 rfl rfl (by simp) ?_
  simp [St.nilc]
  repeat' (first | refine aw_seq ?_ | refine aw_skip ?_ | refine aw_block ?_ | refine aw_exit ?_ | refine aw_cond rfl (fun _ => ?_) (fun hb => absurd hb (by decide)) | refine aw_cond rfl (fun hb => absurd hb (by decide)) (fun _ => ?_) | (refine aw_reg (fun K hK => ?_); simp -implicitDefEqProofs) | (refine aw_drw mixd (fun K hK => ?_); simp -implicitDefEqProofs) | refine hK _ ?_ | refine hK _ _ (by rfl) ?_ | (refine ar_call (cgw p 4 0 rfl ?_); simp -implicitDefEqProofs) | (refine ard_call (dgw p 4 0 rfl ?_); simp -implicitDefEqProofs) | (refine ar_call (cp j ?_); simp -implicitDefEqProofs) | (refine ard_call (dp j ?_); simp -implicitDefEqProofs) | fail)
  refine aw_ret (fin_box ?_); simp -implicitDefEqProofs [FinB, resV, resT] <;> try rfl
theorem text_row (LL : List (Nat × Array Value)) (hLL : LibN LL) {t : VT} {W : List ByteArray} (hW : WD t W) (hL : 3 * W.length ≤ 1000000) (hs : (J W).size ≤ 1000000000) : Row Tryz.prog 16 [vT t, .v (.c (.fn (.func 17) [] []))] [.lib LL] (vS (J W)) [some (.lib LL)] :=
  textg_row LL _ t W (wd_ne hW) (by omega) hs (pdecl_row LL hLL hW [] (by simp; omega))
end Go.Proofs.YtlkggpjdaaglmaaGreatDoor.am
end
