import Derived.Test.YtlkggpjdaaglmaaDoorPkE8
import Derived.Test.YtlkggpjdaaglmaaDoorPkE11
import Derived.Test.YtlkggpjdaaglmaaDoorPkE12
import Derived.Test.YtlkggpjdaaglmaaDoorPkE13
import Derived.Test.YtlkggpjdaaglmaaDoorPkE6
import Derived.Test.YtlkggpjdaaglmaaDoorRows
import Derived.LaidMore
import Derived.LaidSub
import Derived.Lib.LaidTab
import Derived.Test.YtlkggpjdaaglmaaDoorPkE10
import Derived.Test.YtlkggpjdaaglmaaDoorChecked
import Derived.Test.YtlkggpjdaaglmaaDoorPkE4
import Derived.ChangeMaps5
section
namespace Go.Proofs.YtlkggpjdaaglmaaDoor.am
open Go.ChangeShapes Go.WideShapes Go.ChangeAt Go.RowKit
open vt
set_option linter.unusedVariables false
set_option linter.unusedSimpArgs false
theorem sm_same {a b : VT} (h : Sm a b) : same b a = true := by
  induction h with
  | mk x y l m hk hn hs hl h ih =>
    show eqv vt.pS (.mk y m) (.mk x l) = true
    rw [eqv_mk]
    have h1 : vt.pS y x = true := by unfold vt.pS; rw [hk, hn, hs]; simp
    have h2 : zipA (eqv vt.pS) m l m.length = true := by
      unfold zipA
      rw [List.all_eq_true]
      intro q hq
      obtain ⟨i, hi⟩ := List.mem_iff_getElem?.1 (List.mem_of_mem_take hq)
      rw [List.getElem?_zip_eq_some] at hi
      exact ih i q.2 q.1 hi.2 hi.1
    rw [h1, h2, hl]; simp
theorem mz_mem : ∀ {M : List Tok} {y : Tok}, y ∈ M → (spT y).size + 1 ≤ mz M
  | a :: M, y, h => by
    rw [show a :: M = [a] ++ M from rfl, mz_app, mz_one]
    rcases List.mem_cons.1 h with rfl | h
    · omega
    · have := mz_mem h; omega
theorem mz_len : ∀ (M : List Tok), M.length ≤ mz M
  | [] => Nat.zero_le _
  | a :: M => by
    have := mz_len M
    rw [show a :: M = [a] ++ M from rfl, mz_app, mz_one, List.length_append, List.length_singleton]; omega
set_option maxRecDepth 100000 in
set_option maxHeartbeats 4000000 in
theorem pex_row (LL : List (Nat × Array Value)) (hLL : LibN LL) {t : VT} {W : List ByteArray} (hW : WE t W) (hL : 3 * W.length ≤ 1000000) (hs : (J W).size ≤ 1000000000) : Row Tryd.prog 14 [vT t] [.lib LL] (vS (J W)) [some (.lib LL)] := by
  have e := textg_row LL 32 t W (we_ne hW) (by omega) hs (pexp_row LL hLL hW [] (by simp; omega))
  refine row_of Tryd.func14 rfl rfl (Nat.le_of_ble_eq_true rfl) ?_
  repeat' (first | refine aw_seq ?_ | refine aw_skip ?_ | refine aw_block ?_ | refine aw_exit ?_ | refine aw_cond rfl (fun _ => ?_) (fun hb => absurd hb (by decide)) | refine aw_cond rfl (fun hb => absurd hb (by decide)) (fun _ => ?_) | (refine aw_reg (fun K hK => ?_); simp -implicitDefEqProofs) | (refine aw_drw mixd (fun K hK => ?_); simp -implicitDefEqProofs) | refine hK _ ?_ | refine hK _ _ (by rfl) ?_ | (refine ar_call (cb e 0 ?_); simp -implicitDefEqProofs) | (refine ard_call (db e 0 ?_); simp -implicitDefEqProofs) | fail)
  refine aw_ret (fin_box ?_); simp -implicitDefEqProofs [FinB, resV, resT] <;> try rfl
set_option maxRecDepth 100000 in
set_option maxHeartbeats 4000000 in
theorem law_pexprs_row (LL : List (Nat × Array Value)) (hLL : LibN LL) (s : ByteArray) : Row Tryd.prog 5 [vS s] [.lib LL] (vB true) [some (.lib LL)] := by
  have haw := awake10_row LL hLL
  by_cases h3 : 500 < s.size
  · have h3' : (500 : Int) < s.size := by omega
    refine row_of Tryd.func5 rfl rfl (Nat.le_of_ble_eq_true rfl) ?_
    repeat' (first | refine aw_seq ?_ | refine aw_skip ?_ | refine aw_block ?_ | refine aw_exit ?_ | refine aw_cond rfl (fun _ => ?_) (fun hb => absurd hb (by decide)) | refine aw_cond rfl (fun hb => absurd hb (by decide)) (fun _ => ?_) | (refine aw_reg (fun K hK => ?_); simp -implicitDefEqProofs [h3, h3']) | (refine aw_drw mixd (fun K hK => ?_); simp -implicitDefEqProofs [h3, h3']) | refine hK _ ?_ | refine hK _ _ (by rfl) ?_ | (refine ar_call (cb haw 0 ?_); simp -implicitDefEqProofs [h3, h3']) | (refine ard_call (db haw 0 ?_); simp -implicitDefEqProofs [h3, h3']) | fail)
    refine aw_ret (fin_box ?_); simp -implicitDefEqProofs [FinB, resV, resT] <;> try rfl
  have h3' : ¬ (500 : Int) < s.size := by omega
  have ht := rtokens_row s (by omega)
  have hF := @tok_tkw s
  have hP := fun h n hn => @pf_tok s h n hn
  have hO := fun h => tok_len (@tok_ok s h)
  obtain ⟨⟨ts, p, e⟩, hr⟩ : ∃ r, tokG s = r := ⟨_, rfl⟩
  rw [hr] at ht hF hP hO
  dsimp only at hF hP hO
  clear hr
  by_cases he : e = 0; rotate_left
  · refine row_of Tryd.func5 rfl rfl (Nat.le_of_ble_eq_true rfl) ?_
    repeat' (first | refine aw_seq ?_ | refine aw_skip ?_ | refine aw_block ?_ | refine aw_exit ?_ | refine aw_cond rfl (fun _ => ?_) (fun hb => absurd hb (by decide)) | refine aw_cond rfl (fun hb => absurd hb (by decide)) (fun _ => ?_) | (refine aw_reg (fun K hK => ?_); simp -implicitDefEqProofs [h3, h3', he]) | (refine aw_drw mixd (fun K hK => ?_); simp -implicitDefEqProofs [h3, h3', he]) | refine hK _ ?_ | refine hK _ _ (by rfl) ?_ | (refine ar_call (cp ht ?_); simp -implicitDefEqProofs [h3, h3', he]) | (refine ard_call (dp ht ?_); simp -implicitDefEqProofs [h3, h3', he]) | (refine ar_call (cb haw 0 ?_); simp -implicitDefEqProofs [h3, h3', he]) | (refine ard_call (db haw 0 ?_); simp -implicitDefEqProofs [h3, h3', he]) | fail)
    refine aw_ret (fin_box ?_); simp -implicitDefEqProofs [FinB, resV, resT] <;> try rfl
  subst he
  obtain ⟨o1, o2⟩ := hO rfl
  have hx := rexpr_row ts (by omega) 0 (by omega)
  have hok := Q_ok (ts := ts) 1 0 (by omega)
  have hsz : (Qx ts 1 0).2.2 = 0 → (Qx ts 1 0).1.size + 0 ≤ (Qx ts 1 0).2.1 := fun h => pG_sz (ts := ts) _ 1 0 (by omega) h
  have hky : (Qx ts 1 0).2.2 = 0 → KY ts 0 (Qx ts 1 0).1 (Qx ts 1 0).2.1 := fun h => pG_ky (hF rfl) _ 1 0 h
  obtain ⟨⟨⟨tx, tl⟩, N, e2⟩, hq⟩ : ∃ r, Qx ts 1 0 = r := ⟨_, rfl⟩
  rw [hq] at hx hok hsz hky
  dsimp only at hsz hky
  clear hq
  by_cases he2 : e2 = 0; rotate_left
  · refine row_of Tryd.func5 rfl rfl (Nat.le_of_ble_eq_true rfl) ?_
    repeat' (first | refine aw_seq ?_ | refine aw_skip ?_ | refine aw_block ?_ | refine aw_exit ?_ | refine aw_cond rfl (fun _ => ?_) (fun hb => absurd hb (by decide)) | refine aw_cond rfl (fun hb => absurd hb (by decide)) (fun _ => ?_) | (refine aw_reg (fun K hK => ?_); simp -implicitDefEqProofs [h3, h3', he2]) | (refine aw_drw mixd (fun K hK => ?_); simp -implicitDefEqProofs [h3, h3', he2]) | refine hK _ ?_ | refine hK _ _ (by rfl) ?_ | (refine ar_call (cp ht ?_); simp -implicitDefEqProofs [h3, h3', he2]) | (refine ard_call (dp ht ?_); simp -implicitDefEqProofs [h3, h3', he2]) | (refine ar_call (cp hx ?_); simp -implicitDefEqProofs [h3, h3', he2]) | (refine ard_call (dp hx ?_); simp -implicitDefEqProofs [h3, h3', he2]) | (refine ar_call (cb haw 0 ?_); simp -implicitDefEqProofs [h3, h3', he2]) | (refine ard_call (db haw 0 ?_); simp -implicitDefEqProofs [h3, h3', he2]) | fail)
    refine aw_ret (fin_box ?_); simp -implicitDefEqProofs [FinB, resV, resT] <;> try rfl
  subst he2
  have hN := (hok.yes rfl).2
  have hsz := hsz rfl
  obtain ⟨M, k1, k2, k3⟩ := hky rfl
  have hpf := hP rfl N hN
  have hp0 : Pf ts 0 = 0 := rfl
  dsimp only at hN hpf hsz
  have hmz : mz M ≤ 6000 := by omega
  have hW := ke_we k1 k2
  have hJ := J_mz M
  have hML := mz_len M
  have hWl : (M.map spT).length = M.length := List.length_map _
  have hsm : Sml (M.map spT) := fun w hw => by
    obtain ⟨y, hy, rfl⟩ := List.mem_map.1 hw
    have := mz_mem hy; omega
  have pe := pex_row LL hLL hW (by omega) (by omega)
  have re := rexp_row hW (by omega) hsm
  have ht2 := rtokens_row (J (M.map spT)) (by omega)
  obtain ⟨b1, b2, t', g1, g2⟩ := ke_back k1 k2 (by omega)
  generalize J (M.map spT) = D at pe re ht2 b1 b2 g2 hJ
  obtain ⟨⟨ts2, p2, e3⟩, hr2⟩ : ∃ r, tokG D = r := ⟨_, rfl⟩
  rw [hr2] at ht2 b1 b2 g2
  dsimp only at b1 b2 g2
  subst b1
  have hx2 := rexpr_row ts2 (by omega) 0 (by omega)
  have hsz2 : (Qx ts2 1 0).2.2 = 0 → (Qx ts2 1 0).1.size + 0 ≤ (Qx ts2 1 0).2.1 := fun h => pG_sz (ts := ts2) _ 1 0 (by omega) h
  rw [g2] at hx2 hsz2
  have hsz2 := hsz2 rfl
  dsimp only at hsz2
  have sm := rsame_row (.mk tx tl) (by omega) t' (by omega)
  rw [sm_same g1] at sm
  obtain ⟨ux, ul⟩ := t'
  have w1 : IntKind.i64.wrap ((M.length : Int) + 1 - 1) = (M.length : Int) := by rw [i64i _ (by omega) (by omega)]; omega
  have w3 : IntKind.i64.wrap (M.length : Int) = (M.length : Int) := i64i _ (by omega) (by omega)
  have w2 : (ts2.length : Int) = (M.length : Int) + 1 := by omega
  refine row_of Tryd.func5 rfl rfl (Nat.le_of_ble_eq_true rfl) ?_
  repeat' (first | refine aw_seq ?_ | refine aw_skip ?_ | refine aw_block ?_ | refine aw_exit ?_ | refine aw_cond rfl (fun _ => ?_) (fun hb => absurd hb (by decide)) | refine aw_cond rfl (fun hb => absurd hb (by decide)) (fun _ => ?_) | (refine aw_reg (fun K hK => ?_); simp -implicitDefEqProofs [h3, h3', b2, w1, w2, w3]) | (refine aw_drw mixd (fun K hK => ?_); simp -implicitDefEqProofs [h3, h3', b2, w1, w2, w3]) | refine hK _ ?_ | refine hK _ _ (by rfl) ?_ | (refine ar_call (cp ht ?_); simp -implicitDefEqProofs [h3, h3', b2, w1, w2, w3]) | (refine ard_call (dp ht ?_); simp -implicitDefEqProofs [h3, h3', b2, w1, w2, w3]) | (refine ar_call (cp hx ?_); simp -implicitDefEqProofs [h3, h3', b2, w1, w2, w3]) | (refine ard_call (dp hx ?_); simp -implicitDefEqProofs [h3, h3', b2, w1, w2, w3]) | (refine ar_call (cb pe 0 ?_); simp -implicitDefEqProofs [h3, h3', b2, w1, w2, w3]) | (refine ard_call (db pe 0 ?_); simp -implicitDefEqProofs [h3, h3', b2, w1, w2, w3]) | (refine ar_call (cp re ?_); simp -implicitDefEqProofs [h3, h3', b2, w1, w2, w3]) | (refine ard_call (dp re ?_); simp -implicitDefEqProofs [h3, h3', b2, w1, w2, w3]) | (refine ar_call (cp ht2 ?_); simp -implicitDefEqProofs [h3, h3', b2, w1, w2, w3]) | (refine ard_call (dp ht2 ?_); simp -implicitDefEqProofs [h3, h3', b2, w1, w2, w3]) | (refine ar_call (cp hx2 ?_); simp -implicitDefEqProofs [h3, h3', b2, w1, w2, w3]) | (refine ard_call (dp hx2 ?_); simp -implicitDefEqProofs [h3, h3', b2, w1, w2, w3]) | (refine ar_call (cp sm ?_); simp -implicitDefEqProofs [h3, h3', b2, w1, w2, w3]) | (refine ard_call (dp sm ?_); simp -implicitDefEqProofs [h3, h3', b2, w1, w2, w3]) | (refine ar_call (cb haw 0 ?_); simp -implicitDefEqProofs [h3, h3', b2, w1, w2, w3]) | (refine ard_call (db haw 0 ?_); simp -implicitDefEqProofs [h3, h3', b2, w1, w2, w3]) | fail)
  refine aw_ret (fin_box ?_); simp -implicitDefEqProofs [FinB, resV, resT] <;> try rfl
end Go.Proofs.YtlkggpjdaaglmaaDoor.am
end
section
namespace Go.Proofs.YtlkggpjdaaglmaaDoor.lx
open Go.ChangeShapes Go.WideShapes Go.ChangeAt Go.RowKit
open bs
set_option linter.unusedVariables false
theorem gl_of_laid {W : World} (h : laidMetH Tryd.prog Rows.printExprsRow.laid W) : Lib.TabIs Tryd.prog W "internal/strconv.uint64pow10" .u64 Lib.pow10Tab := by
  rw [MakeChecks.laidMetH_plain _ _ _ (by kernel_rfl)] at h
  obtain ⟨ps, hl, _, _⟩ := h
  obtain ⟨g0, t0, cs0, f0, p0, q0, hg0, ht0, hv0, hd0, hl, _⟩ := hl
  obtain ⟨g1, t1, cs1, f1, p1, q1, hg1, ht1, hv1, hd1, hl, _⟩ := hl
  obtain ⟨g2, t2, cs2, f2, p2, q2, hg2, ht2, hv2, hd2, hl, _⟩ := hl
  obtain rfl := Option.some.inj ((show Tryd.prog.globalNamed "internal/strconv.uint64pow10" = some 3 by kernel_rfl).symm.trans hg2)
  obtain rfl := Option.some.inj ((show (Tryd.prog.globals[3]?).map (·.type) = some 143 by kernel_rfl).symm.trans ht2)
  have hc2 := Lib.cells_of_tab (k := .u64) (zs := Lib.pow10Tab) Tryd.underlying143 Tryd.underlying117 (by kernel_rfl) (by kernel_rfl) hd2
  have e2 : cs2 = (Lib.pow10Tab.map fun z => Value.int .u64 z).toArray := by rw [← hc2]
  unfold Lib.TabIs; rw [hv2, e2]
end Go.Proofs.YtlkggpjdaaglmaaDoor.lx
end
section
namespace Go.Proofs.YtlkggpjdaaglmaaDoor.am
open Go.ChangeShapes Go.WideShapes Go.ChangeAt Go.RowKit
open vt
set_option linter.unusedVariables false
set_option linter.unusedSimpArgs false
set_option maxRecDepth 100000
end Go.Proofs.YtlkggpjdaaglmaaDoor.am
end
section
namespace Go.Proofs.YtlkggpjdaaglmaaDoor.am
open Go.ChangeShapes Go.WideShapes Go.ChangeAt Go.RowKit
open vt
set_option linter.unusedVariables false
set_option maxRecDepth 100000 in
theorem open_vstring {H : Type} {enc : TypeId × Value → H} {w : World} {r : Reach} {b0 : Nat} {v : Value} {d : DataW H} {p : List MemPlace}
    (hv : Value.okWide Tryd.prog w r b0 9 v) (h : DataW.Trod enc Tryd.prog w 0 (fun _ => true) true 9 v d p) : ∃ s : ByteArray, RepV (fun _ => .un) (oldS w) w v (vS s) ∧ s.size ≤ 9223372036854775807 := by
  obtain ⟨s, rfl, _, _, h1⟩ := Go.ChangeMaps.open_string Tryd.underlying9 hv h
  exact ⟨s, .lit _ rfl, by unfold maxLen at h1; omega⟩
end Go.Proofs.YtlkggpjdaaglmaaDoor.am
end
