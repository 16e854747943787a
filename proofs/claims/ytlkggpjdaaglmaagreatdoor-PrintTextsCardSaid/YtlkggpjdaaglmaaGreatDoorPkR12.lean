import Derived.Test.YtlkggpjdaaglmaaGreatDoorPkR8
import Derived.Test.YtlkggpjdaaglmaaGreatDoorPkR11
section
namespace Go.Proofs.YtlkggpjdaaglmaaGreatDoor.am
open vt
set_option linter.unusedVariables false
inductive WS : VT → List ByteArray → Prop
  | blk (x : Lab) (l : List VT) (Ws : List (List ByteArray)) (h : x.k = 29) (hl : l.length = Ws.length) (hw : ∀ (i : Nat) t W, l[i]? = some t → Ws[i]? = some W → WS t W) : WS (.mk x l) ([sBra] ++ (pre [] Ws ++ [sKet]))
  | lt (x a : Lab) (al : List VT) (A : List ByteArray) (h : x.k = 20) (hs : x.s.size ≤ 8192) (ha : WE (.mk a al) A) : WS (.mk x [.mk a al]) ([wLet] ++ ([x.s] ++ ([sIs] ++ (A ++ [sEnd]))))
  | new (x a : Lab) (al : List VT) (A : List ByteArray) (h : x.k = 21) (hs : x.s.size ≤ 8192) (ha : WT (.mk a al) A) : WS (.mk x [.mk a al]) ([wLet] ++ ([x.s] ++ ([sCol] ++ (A ++ [sEnd]))))
  | set' (x a c : Lab) (al cl : List VT) (A C : List ByteArray) (h : x.k = 22) (ha : WE (.mk a al) A) (hc : WE (.mk c cl) C) : WS (.mk x [.mk a al, .mk c cl]) (A ++ ([sIs] ++ (C ++ [sEnd])))
  | ifn (x a c e : Lab) (al cl : List VT) (A C : List ByteArray) (h : x.k = 23) (ha : WE (.mk a al) A) (hk : c.k = 29) (hc : WS (.mk c cl) C) : WS (.mk x [.mk a al, .mk c cl, .mk e []]) ([wIf] ++ (A ++ C))
  | ife (x a c e : Lab) (al cl el : List VT) (A C E : List ByteArray) (h : x.k = 23) (ha : WE (.mk a al) A) (hk : c.k = 29) (hc : WS (.mk c cl) C) (he : e.k = 29) (hn : el ≠ []) (hE : WS (.mk e el) E) : WS (.mk x [.mk a al, .mk c cl, .mk e el]) ([wIf] ++ (A ++ (C ++ ([wElse] ++ E))))
  | whl (x a c : Lab) (al cl : List VT) (A C : List ByteArray) (h : x.k = 24) (ha : WE (.mk a al) A) (hk : c.k = 29) (hc : WS (.mk c cl) C) : WS (.mk x [.mk a al, .mk c cl]) ([wWhil] ++ (A ++ C))
  | frr (x a b c : Lab) (al bl cl : List VT) (A B C : List ByteArray) (h : x.k = 25) (hs : x.s.size ≤ 8192) (ha : WE (.mk a al) A) (hb : WE (.mk b bl) B) (hk : c.k = 29) (hc : WS (.mk c cl) C) : WS (.mk x [.mk a al, .mk b bl, .mk c cl]) ([wFor] ++ ([x.s] ++ ([sIs] ++ (A ++ ([wTo] ++ (B ++ C))))))
  | prn (x a : Lab) (al : List VT) (A : List ByteArray) (h : x.k = 26) (ha : WE (.mk a al) A) : WS (.mk x [.mk a al]) ([wPrin] ++ (A ++ [sEnd]))
  | rtn (x a : Lab) (al : List VT) (A : List ByteArray) (h : x.k = 27) (ha : WE (.mk a al) A) : WS (.mk x [.mk a al]) ([wRet] ++ (A ++ [sEnd]))
  | doo (x a : Lab) (al : List VT) (A : List ByteArray) (h : x.k = 28) (ha : WE (.mk a al) A) : WS (.mk x [.mk a al]) ([wDo] ++ (A ++ [sEnd]))
theorem ws_ne {t : VT} {W : List ByteArray} (h : WS t W) : W ≠ [] := by cases h <;> simp
inductive WF : VT → List ByteArray → Prop
  | mk (x a : Lab) (al : List VT) (A : List ByteArray) (hs : x.s.size ≤ 8192) (ha : WT (.mk a al) A) : WF (.mk x [.mk a al]) ([x.s] ++ ([sCol] ++ A))
inductive WD : VT → List ByteArray → Prop
  | rec' (x : Lab) (l : List VT) (Ws : List (List ByteArray)) (h : x.k = 30) (hs : x.s.size ≤ 8192) (hl : l.length = Ws.length) (hw : ∀ (i : Nat) t W, l[i]? = some t → Ws[i]? = some W → WF t W) : WD (.mk x l) ([wRec] ++ ([x.s] ++ ([sBra] ++ (pre [] (Ws.map (· ++ [sEnd])) ++ [sKet]))))
  | dfn (x a : Lab) (al : List VT) (A : List ByteArray) (h : x.k = 31) (hs : x.s.size ≤ 8192) (ha : WE (.mk a al) A) : WD (.mk x [.mk a al]) ([wConst] ++ ([x.s] ++ ([sIs] ++ (A ++ [sEnd]))))
  | var' (x a : Lab) (al : List VT) (A : List ByteArray) (h : x.k = 32) (hs : x.s.size ≤ 8192) (ha : WT (.mk a al) A) : WD (.mk x [.mk a al]) ([wVar] ++ ([x.s] ++ ([sCol] ++ (A ++ [sEnd]))))
  | fn (x p r b : Lab) (pl rl bl : List VT) (Ws : List (List ByteArray)) (R B : List ByteArray) (h : x.k = 33) (hn : x.n = 0) (hs : x.s.size ≤ 8192) (hl : pl.length = Ws.length) (hw : ∀ (i : Nat) t W, pl[i]? = some t → Ws[i]? = some W → WF t W) (hr : WT (.mk r rl) R) (hk : b.k = 29) (hb : WS (.mk b bl) B) : WD (.mk x [.mk p pl, .mk r rl, .mk b bl]) ([wFn] ++ ([x.s] ++ ([sParO] ++ (pre [sCom] Ws ++ ([sParS] ++ ([sCol] ++ (R ++ B)))))))
  | pub (x p r b : Lab) (pl rl bl : List VT) (Ws : List (List ByteArray)) (R B : List ByteArray) (h : x.k = 33) (hn : x.n = 1) (hs : x.s.size ≤ 8192) (hl : pl.length = Ws.length) (hw : ∀ (i : Nat) t W, pl[i]? = some t → Ws[i]? = some W → WF t W) (hr : WT (.mk r rl) R) (hk : b.k = 29) (hb : WS (.mk b bl) B) : WD (.mk x [.mk p pl, .mk r rl, .mk b bl]) ([wPub] ++ ([wFn] ++ ([x.s] ++ ([sParO] ++ (pre [sCom] Ws ++ ([sParS] ++ ([sCol] ++ (R ++ B))))))))
end Go.Proofs.YtlkggpjdaaglmaaGreatDoor.am
end
section
namespace Go.Proofs.YtlkggpjdaaglmaaGreatDoor.am
open Go.ChangeShapes Go.WideShapes Go.ChangeAt Go.RowKit
open vt
set_option linter.unusedVariables false
set_option linter.unusedSimpArgs false
set_option maxRecDepth 100000 in
set_option maxHeartbeats 4000000 in
theorem pclosed_row (LL : List (Nat × Array Value)) (hLL : LibN LL) {t : VT} {A : List ByteArray} (ha : WE t A) (L : List ByteArray) (hL : L.length + 3 * (A.length + 1) ≤ 1000000) : PRow LL 137 [vT t] L (A ++ [sEnd]) := by
  have p1 := pexp_row LL hLL ha L (by omega)
  have p2 := put_row LL (L ++ A) [sEnd] (by simp; omega)
  refine row_of Tryz.func137 rfl rfl (Nat.le_of_ble_eq_true rfl) ?_
  repeat' (first | refine aw_seq ?_ | refine aw_skip ?_ | refine aw_block ?_ | refine aw_exit ?_ | refine aw_cond rfl (fun _ => ?_) (fun hb => absurd hb (by decide)) | refine aw_cond rfl (fun hb => absurd hb (by decide)) (fun _ => ?_) | (refine aw_reg (fun K hK => ?_); simp -implicitDefEqProofs) | (refine aw_drw mixd (fun K hK => ?_); simp -implicitDefEqProofs) | refine hK _ ?_ | refine hK _ _ (by rfl) ?_ | (refine ar_call (cgw p1 0 2 rfl ?_); simp -implicitDefEqProofs) | (refine ard_call (dgw p1 0 2 rfl ?_); simp -implicitDefEqProofs) | (refine ar_call (cgw p2 0 2 rfl ?_); simp -implicitDefEqProofs) | (refine ard_call (dgw p2 0 2 rfl ?_); simp -implicitDefEqProofs) | fail)
  refine fin_fall (fin_gw rfl ?_); simp -implicitDefEqProofs [FinG, resV, resT] <;> try rfl
set_option maxRecDepth 100000 in
set_option maxHeartbeats 4000000 in
theorem param_row (LL : List (Nat × Array Value)) (hLL : LibN LL) (x a : Lab) (al : List VT) {A : List ByteArray} (ha : WT (.mk a al) A) (L : List ByteArray) (hL : L.length + (A.length + 2) ≤ 1000000) : PRow LL 80 [vT (.mk x [.mk a al])] L ([x.s] ++ ([sCol] ++ A)) := by
  have q0 := part_row x [.mk a al] 0 (.mk a al) rfl (by decide)
  have p1 := name_row LL L x.s (by omega)
  have p2 := put_row LL (L ++ [x.s]) [sCol] (by simp; omega)
  have p3 := ptyp_row LL hLL ha (L ++ [x.s] ++ [sCol]) (by simp; omega)
  refine row_of Tryz.func80 rfl rfl (Nat.le_of_ble_eq_true rfl) ?_
  repeat' (first | refine aw_seq ?_ | refine aw_skip ?_ | refine aw_block ?_ | refine aw_exit ?_ | refine aw_cond rfl (fun _ => ?_) (fun hb => absurd hb (by decide)) | refine aw_cond rfl (fun hb => absurd hb (by decide)) (fun _ => ?_) | (refine aw_reg (fun K hK => ?_); simp -implicitDefEqProofs) | (refine aw_drw mixd (fun K hK => ?_); simp -implicitDefEqProofs) | refine hK _ ?_ | refine hK _ _ (by rfl) ?_ | (refine ar_call (cp q0 ?_); simp -implicitDefEqProofs) | (refine ard_call (dp q0 ?_); simp -implicitDefEqProofs) | (refine ar_call (cgw p1 0 2 rfl ?_); simp -implicitDefEqProofs) | (refine ard_call (dgw p1 0 2 rfl ?_); simp -implicitDefEqProofs) | (refine ar_call (cgw p2 0 2 rfl ?_); simp -implicitDefEqProofs) | (refine ard_call (dgw p2 0 2 rfl ?_); simp -implicitDefEqProofs) | (refine ar_call (cgw p3 0 2 rfl ?_); simp -implicitDefEqProofs) | (refine ard_call (dgw p3 0 2 rfl ?_); simp -implicitDefEqProofs) | fail)
  refine fin_fall (fin_gw rfl ?_); simp -implicitDefEqProofs [FinG, resV, resT] <;> try rfl
set_option maxRecDepth 100000 in
set_option maxHeartbeats 4000000 in
theorem field_row (LL : List (Nat × Array Value)) (hLL : LibN LL) (x a : Lab) (al : List VT) {A : List ByteArray} (ha : WT (.mk a al) A) (L : List ByteArray) (hL : L.length + (A.length + 3) ≤ 1000000) : PRow LL 44 [vT (.mk x [.mk a al])] L ([x.s] ++ ([sCol] ++ (A ++ [sEnd]))) := by
  have p1 := param_row LL hLL x a al ha L (by omega)
  have p2 := put_row LL (L ++ ([x.s] ++ ([sCol] ++ A))) [sEnd] (by simp; omega)
  have e : L ++ ([x.s] ++ ([sCol] ++ (A ++ [sEnd]))) = L ++ ([x.s] ++ ([sCol] ++ A)) ++ [sEnd] := by simp
  show Row _ _ _ _ _ [some (bxW 3 (ws (L ++ ([x.s] ++ ([sCol] ++ (A ++ [sEnd])))))), _, _, _]
  rw [e]
  generalize [x.s] ++ ([sCol] ++ A) = R at *
  refine row_of Tryz.func44 rfl rfl (Nat.le_of_ble_eq_true rfl) ?_
  repeat' (first | refine aw_seq ?_ | refine aw_skip ?_ | refine aw_block ?_ | refine aw_exit ?_ | refine aw_cond rfl (fun _ => ?_) (fun hb => absurd hb (by decide)) | refine aw_cond rfl (fun hb => absurd hb (by decide)) (fun _ => ?_) | (refine aw_reg (fun K hK => ?_); simp -implicitDefEqProofs) | (refine aw_drw mixd (fun K hK => ?_); simp -implicitDefEqProofs) | refine hK _ ?_ | refine hK _ _ (by rfl) ?_ | (refine ar_call (cgw p1 0 2 rfl ?_); simp -implicitDefEqProofs) | (refine ard_call (dgw p1 0 2 rfl ?_); simp -implicitDefEqProofs) | (refine ar_call (cgw p2 0 2 rfl ?_); simp -implicitDefEqProofs) | (refine ard_call (dgw p2 0 2 rfl ?_); simp -implicitDefEqProofs) | fail)
  refine fin_fall (fin_gw rfl ?_); simp -implicitDefEqProofs [FinG, resV, resT] <;> try rfl
set_option maxRecDepth 100000 in
set_option maxHeartbeats 4000000 in
theorem block_row (LL : List (Nat × Array Value)) (x : Lab) (l : List VT) (Ws : List (List ByteArray)) (hl : l.length = Ws.length) (hn : l.length ≤ 1000000) (ih : ∀ (i : Nat) t W, l[i]? = some t → Ws[i]? = some W → ∀ L : List ByteArray, L.length + 3 * W.length ≤ 1000000 → PRow LL 120 [vT t] L W) (L : List ByteArray) (hL : L.length + 3 * ([sBra] ++ (pre [] Ws ++ [sKet])).length ≤ 1000000) : PRow LL 85 [vT (.mk x l)] L ([sBra] ++ (pre [] Ws ++ [sKet])) := by
  have hc : (if (⟨#[]⟩ : ByteArray) = ⟨#[]⟩ then ([] : List ByteArray) else [⟨#[]⟩]) = [] := if_pos rfl
  have pl := fun L' hL' => plist_row LL 120 ⟨#[]⟩ l Ws hl hn ih L' hL'
  rw [hc] at pl
  simp only [List.length_append, List.length_singleton] at hL
  have p1 := put_row LL L [sBra] (by simp; omega)
  have p2 := pl (L ++ [sBra]) (by simp; omega)
  have p3 := put_row LL (L ++ [sBra] ++ pre [] Ws) [sKet] (by simp; omega)
  generalize pre [] Ws = PW at *
  clear pl
  refine row_of Tryz.func85 rfl rfl (Nat.le_of_ble_eq_true rfl) ?_
  repeat' (first | refine aw_seq ?_ | refine aw_skip ?_ | refine aw_block ?_ | refine aw_exit ?_ | refine aw_cond rfl (fun _ => ?_) (fun hb => absurd hb (by decide)) | refine aw_cond rfl (fun hb => absurd hb (by decide)) (fun _ => ?_) | (refine aw_reg (fun K hK => ?_); simp -implicitDefEqProofs) | (refine aw_drw mixd (fun K hK => ?_); simp -implicitDefEqProofs) | refine hK _ ?_ | refine hK _ _ (by rfl) ?_ | (refine ar_call (cgw p1 0 2 rfl ?_); simp -implicitDefEqProofs) | (refine ard_call (dgw p1 0 2 rfl ?_); simp -implicitDefEqProofs) | (refine ar_call (cgw p2 0 2 rfl ?_); simp -implicitDefEqProofs) | (refine ard_call (dgw p2 0 2 rfl ?_); simp -implicitDefEqProofs) | (refine ar_call (cgw p3 0 2 rfl ?_); simp -implicitDefEqProofs) | (refine ard_call (dgw p3 0 2 rfl ?_); simp -implicitDefEqProofs) | fail)
  refine fin_fall (fin_gw rfl ?_); simp -implicitDefEqProofs [FinG, resV, resT] <;> try rfl
set_option maxRecDepth 100000 in
set_option maxHeartbeats 4000000 in
theorem branch_row (LL : List (Nat × Array Value)) (hLL : LibN LL) (x a c e : Lab) (al cl el : List VT) (A C E : List ByteArray) (ha : WE (.mk a al) A) (ic : ∀ L : List ByteArray, L.length + 3 * C.length ≤ 1000000 → PRow LL 85 [vT (.mk c cl)] L C) (hn : el ≠ []) (ie : ∀ L : List ByteArray, L.length + 3 * E.length ≤ 1000000 → PRow LL 85 [vT (.mk e el)] L E) (L : List ByteArray) (hL : L.length + 3 * ([wIf] ++ (A ++ (C ++ ([wElse] ++ E)))).length ≤ 1000000) : PRow LL 138 [vT (.mk x [.mk a al, .mk c cl, .mk e el])] L ([wIf] ++ (A ++ (C ++ ([wElse] ++ E)))) := by
  have q0 := part_row x [.mk a al, .mk c cl, .mk e el] 0 (.mk a al) rfl (by decide)
  have q1 := part_row x [.mk a al, .mk c cl, .mk e el] 1 (.mk c cl) rfl (by decide)
  have q2 := part_row x [.mk a al, .mk c cl, .mk e el] 2 (.mk e el) rfl (by decide)
  simp only [List.length_append, List.length_singleton] at hL
  have hn' : 0 < el.length := List.length_pos_iff.2 hn
  have p1 := put_row LL L [wIf] (by simp; omega)
  have p2 := pexp_row LL hLL ha (L ++ [wIf]) (by simp; omega)
  have p3 := ic (L ++ [wIf] ++ A) (by simp; omega)
  have p4 := put_row LL (L ++ [wIf] ++ A ++ C) [wElse] (by simp; omega)
  have p5 := ie (L ++ [wIf] ++ A ++ C ++ [wElse]) (by simp; omega)
  refine row_of Tryz.func138 rfl rfl (Nat.le_of_ble_eq_true rfl) ?_
  repeat' (first | refine aw_seq ?_ | refine aw_skip ?_ | refine aw_block ?_ | refine aw_exit ?_ | refine aw_cond rfl (fun _ => ?_) (fun hb => absurd hb (by decide)) | refine aw_cond rfl (fun hb => absurd hb (by decide)) (fun _ => ?_) | (refine aw_reg (fun K hK => ?_); simp -implicitDefEqProofs [hn', hn]) | (refine aw_drw mixd (fun K hK => ?_); simp -implicitDefEqProofs [hn', hn]) | refine hK _ ?_ | refine hK _ _ (by rfl) ?_ | (refine ar_call (cp q0 ?_); simp -implicitDefEqProofs [hn', hn]) | (refine ard_call (dp q0 ?_); simp -implicitDefEqProofs [hn', hn]) | (refine ar_call (cp q1 ?_); simp -implicitDefEqProofs [hn', hn]) | (refine ard_call (dp q1 ?_); simp -implicitDefEqProofs [hn', hn]) | (refine ar_call (cp q2 ?_); simp -implicitDefEqProofs [hn', hn]) | (refine ard_call (dp q2 ?_); simp -implicitDefEqProofs [hn', hn]) | (refine ar_call (cgw p1 0 2 rfl ?_); simp -implicitDefEqProofs [hn', hn]) | (refine ard_call (dgw p1 0 2 rfl ?_); simp -implicitDefEqProofs [hn', hn]) | (refine ar_call (cgw p2 0 2 rfl ?_); simp -implicitDefEqProofs [hn', hn]) | (refine ard_call (dgw p2 0 2 rfl ?_); simp -implicitDefEqProofs [hn', hn]) | (refine ar_call (cgw p3 0 2 rfl ?_); simp -implicitDefEqProofs [hn', hn]) | (refine ard_call (dgw p3 0 2 rfl ?_); simp -implicitDefEqProofs [hn', hn]) | (refine ar_call (cgw p4 0 2 rfl ?_); simp -implicitDefEqProofs [hn', hn]) | (refine ard_call (dgw p4 0 2 rfl ?_); simp -implicitDefEqProofs [hn', hn]) | (refine ar_call (cgw p5 0 2 rfl ?_); simp -implicitDefEqProofs [hn', hn]) | (refine ard_call (dgw p5 0 2 rfl ?_); simp -implicitDefEqProofs [hn', hn]) | fail)
  refine fin_fall (fin_gw rfl ?_); simp -implicitDefEqProofs [FinG, resV, resT] <;> try rfl
set_option maxRecDepth 100000 in
set_option maxHeartbeats 4000000 in
theorem branch0_row (LL : List (Nat × Array Value)) (hLL : LibN LL) (x a c e : Lab) (al cl : List VT) (A C : List ByteArray) (ha : WE (.mk a al) A) (ic : ∀ L : List ByteArray, L.length + 3 * C.length ≤ 1000000 → PRow LL 85 [vT (.mk c cl)] L C) (L : List ByteArray) (hL : L.length + 3 * ([wIf] ++ (A ++ C)).length ≤ 1000000) : PRow LL 138 [vT (.mk x [.mk a al, .mk c cl, .mk e []])] L ([wIf] ++ (A ++ C)) := by
  have q0 := part_row x [.mk a al, .mk c cl, .mk e []] 0 (.mk a al) rfl (by decide)
  have q1 := part_row x [.mk a al, .mk c cl, .mk e []] 1 (.mk c cl) rfl (by decide)
  have q2 := part_row x [.mk a al, .mk c cl, .mk e []] 2 (.mk e []) rfl (by decide)
  simp only [List.length_append, List.length_singleton] at hL
  have p1 := put_row LL L [wIf] (by simp; omega)
  have p2 := pexp_row LL hLL ha (L ++ [wIf]) (by simp; omega)
  have p3 := ic (L ++ [wIf] ++ A) (by simp; omega)
  refine row_of Tryz.func138 rfl rfl (Nat.le_of_ble_eq_true rfl) ?_
  repeat' (first | refine aw_seq ?_ | refine aw_skip ?_ | refine aw_block ?_ | refine aw_exit ?_ | refine aw_cond rfl (fun _ => ?_) (fun hb => absurd hb (by decide)) | refine aw_cond rfl (fun hb => absurd hb (by decide)) (fun _ => ?_) | (refine aw_reg (fun K hK => ?_); simp -implicitDefEqProofs) | (refine aw_drw mixd (fun K hK => ?_); simp -implicitDefEqProofs) | refine hK _ ?_ | refine hK _ _ (by rfl) ?_ | (refine ar_call (cp q0 ?_); simp -implicitDefEqProofs) | (refine ard_call (dp q0 ?_); simp -implicitDefEqProofs) | (refine ar_call (cp q1 ?_); simp -implicitDefEqProofs) | (refine ard_call (dp q1 ?_); simp -implicitDefEqProofs) | (refine ar_call (cp q2 ?_); simp -implicitDefEqProofs) | (refine ard_call (dp q2 ?_); simp -implicitDefEqProofs) | (refine ar_call (cgw p1 0 2 rfl ?_); simp -implicitDefEqProofs) | (refine ard_call (dgw p1 0 2 rfl ?_); simp -implicitDefEqProofs) | (refine ar_call (cgw p2 0 2 rfl ?_); simp -implicitDefEqProofs) | (refine ard_call (dgw p2 0 2 rfl ?_); simp -implicitDefEqProofs) | (refine ar_call (cgw p3 0 2 rfl ?_); simp -implicitDefEqProofs) | (refine ard_call (dgw p3 0 2 rfl ?_); simp -implicitDefEqProofs) | fail)
  refine fin_fall (fin_gw rfl ?_); simp -implicitDefEqProofs [FinG, resV, resT] <;> try rfl
end Go.Proofs.YtlkggpjdaaglmaaGreatDoor.am
end
section
namespace Go.Proofs.YtlkggpjdaaglmaaGreatDoor.am
open Go.ChangeShapes Go.WideShapes Go.ChangeAt Go.RowKit
open vt
set_option linter.unusedVariables false
set_option linter.unusedSimpArgs false
set_option maxRecDepth 100000 in
set_option maxHeartbeats 4000000 in
theorem pstm_row (LL : List (Nat × Array Value)) (hLL : LibN LL) {t : VT} {W : List ByteArray} (hW : WS t W) : (∀ L : List ByteArray, L.length + 3 * W.length ≤ 1000000 → PRow LL 120 [vT t] L W) ∧ (t.lab.k = 29 → ∀ L : List ByteArray, L.length + 3 * W.length ≤ 1000000 → PRow LL 85 [vT t] L W) := by
  have nb : ∀ {x : Lab} {l : List VT} {W : List ByteArray} {c : Int}, x.k = c → c ≠ 29 → ((Tr.mk x l).lab.k = 29 → ∀ L : List ByteArray, L.length + 3 * W.length ≤ 1000000 → PRow LL 85 [vT (Tr.mk x l)] L W) := fun {x l W c} h hc hk => absurd (h.symm.trans hk) hc
  induction hW with
  | blk x l Ws h hl hw ih =>
    have k := ws_kids hl (fun i t W a b => ws_ne (hw i t W a b)) []
    have hb : ∀ L : List ByteArray, L.length + 3 * ([sBra] ++ (pre [] Ws ++ [sKet])).length ≤ 1000000 → PRow LL 85 [vT (.mk x l)] L ([sBra] ++ (pre [] Ws ++ [sKet])) := fun L hL => block_row LL x l Ws hl (by simp only [List.length_append] at hL; omega) (fun i t W a b => (ih i t W a b).1) L hL
    refine ⟨fun L hL => ?_, fun _ => hb⟩
    have p := hb L hL
    generalize [sBra] ++ (pre [] Ws ++ [sKet]) = R at *
    refine row_of Tryz.func120 rfl rfl (Nat.le_of_ble_eq_true rfl) ?_
    repeat' (first | refine aw_seq ?_ | refine aw_skip ?_ | refine aw_block ?_ | refine aw_exit ?_ | refine aw_cond rfl (fun _ => ?_) (fun hb => absurd hb (by decide)) | refine aw_cond rfl (fun hb => absurd hb (by decide)) (fun _ => ?_) | (refine aw_reg (fun K hK => ?_); simp -implicitDefEqProofs [h]) | (refine aw_drw mixd (fun K hK => ?_); simp -implicitDefEqProofs [h]) | refine hK _ ?_ | refine hK _ _ (by rfl) ?_ | (refine ar_call (cgw p 0 2 rfl ?_); simp -implicitDefEqProofs [h]) | (refine ard_call (dgw p 0 2 rfl ?_); simp -implicitDefEqProofs [h]) | fail)
    refine fin_fall (fin_gw rfl ?_); simp -implicitDefEqProofs [FinG, resV, resT] <;> try rfl
  | lt x a al A h hs ha =>
    refine ⟨fun L hL => ?_, nb h (by decide)⟩
    simp only [List.length_append, List.length_singleton] at hL
    have q0 := part_row x [.mk a al] 0 (.mk a al) rfl (by decide)
    have p1 := put_row LL L [wLet] (by simp; omega)
    have p2 := name_row LL (L ++ [wLet]) x.s (by simp; omega)
    have p3 := put_row LL (L ++ [wLet] ++ [x.s]) [sIs] (by simp; omega)
    have p4 := pclosed_row LL hLL ha (L ++ [wLet] ++ [x.s] ++ [sIs]) (by simp; omega)
    refine row_of Tryz.func120 rfl rfl (Nat.le_of_ble_eq_true rfl) ?_
    repeat' (first | refine aw_seq ?_ | refine aw_skip ?_ | refine aw_block ?_ | refine aw_exit ?_ | refine aw_cond rfl (fun _ => ?_) (fun hb => absurd hb (by decide)) | refine aw_cond rfl (fun hb => absurd hb (by decide)) (fun _ => ?_) | (refine aw_reg (fun K hK => ?_); simp -implicitDefEqProofs [h]) | (refine aw_drw mixd (fun K hK => ?_); simp -implicitDefEqProofs [h]) | refine hK _ ?_ | refine hK _ _ (by rfl) ?_ | (refine ar_call (cp q0 ?_); simp -implicitDefEqProofs [h]) | (refine ard_call (dp q0 ?_); simp -implicitDefEqProofs [h]) | (refine ar_call (cgw p1 0 2 rfl ?_); simp -implicitDefEqProofs [h]) | (refine ard_call (dgw p1 0 2 rfl ?_); simp -implicitDefEqProofs [h]) | (refine ar_call (cgw p2 0 2 rfl ?_); simp -implicitDefEqProofs [h]) | (refine ard_call (dgw p2 0 2 rfl ?_); simp -implicitDefEqProofs [h]) | (refine ar_call (cgw p3 0 2 rfl ?_); simp -implicitDefEqProofs [h]) | (refine ard_call (dgw p3 0 2 rfl ?_); simp -implicitDefEqProofs [h]) | (refine ar_call (cgw p4 0 2 rfl ?_); simp -implicitDefEqProofs [h]) | (refine ard_call (dgw p4 0 2 rfl ?_); simp -implicitDefEqProofs [h]) | fail)
    refine fin_fall (fin_gw rfl ?_); simp -implicitDefEqProofs [FinG, resV, resT] <;> try rfl
  | new x a al A h hs ha =>
    refine ⟨fun L hL => ?_, nb h (by decide)⟩
    simp only [List.length_append, List.length_singleton] at hL
    have p1 := put_row LL L [wLet] (by simp; omega)
    have p2 := field_row LL hLL x a al ha (L ++ [wLet]) (by simp; omega)
    refine row_of Tryz.func120 rfl rfl (Nat.le_of_ble_eq_true rfl) ?_
    repeat' (first | refine aw_seq ?_ | refine aw_skip ?_ | refine aw_block ?_ | refine aw_exit ?_ | refine aw_cond rfl (fun _ => ?_) (fun hb => absurd hb (by decide)) | refine aw_cond rfl (fun hb => absurd hb (by decide)) (fun _ => ?_) | (refine aw_reg (fun K hK => ?_); simp -implicitDefEqProofs [h]) | (refine aw_drw mixd (fun K hK => ?_); simp -implicitDefEqProofs [h]) | refine hK _ ?_ | refine hK _ _ (by rfl) ?_ | (refine ar_call (cgw p1 0 2 rfl ?_); simp -implicitDefEqProofs [h]) | (refine ard_call (dgw p1 0 2 rfl ?_); simp -implicitDefEqProofs [h]) | (refine ar_call (cgw p2 0 2 rfl ?_); simp -implicitDefEqProofs [h]) | (refine ard_call (dgw p2 0 2 rfl ?_); simp -implicitDefEqProofs [h]) | fail)
    refine fin_fall (fin_gw rfl ?_); simp -implicitDefEqProofs [FinG, resV, resT] <;> try rfl
  | set' x a c al cl A C h ha hc =>
    refine ⟨fun L hL => ?_, nb h (by decide)⟩
    simp only [List.length_append, List.length_singleton] at hL
    have q0 := part_row x [.mk a al, .mk c cl] 0 (.mk a al) rfl (by decide)
    have q1 := part_row x [.mk a al, .mk c cl] 1 (.mk c cl) rfl (by decide)
    have p1 := pexp_row LL hLL ha L (by omega)
    have p2 := put_row LL (L ++ A) [sIs] (by simp; omega)
    have p3 := pclosed_row LL hLL hc (L ++ A ++ [sIs]) (by simp; omega)
    refine row_of Tryz.func120 rfl rfl (Nat.le_of_ble_eq_true rfl) ?_
    repeat' (first | refine aw_seq ?_ | refine aw_skip ?_ | refine aw_block ?_ | refine aw_exit ?_ | refine aw_cond rfl (fun _ => ?_) (fun hb => absurd hb (by decide)) | refine aw_cond rfl (fun hb => absurd hb (by decide)) (fun _ => ?_) | (refine aw_reg (fun K hK => ?_); simp -implicitDefEqProofs [h]) | (refine aw_drw mixd (fun K hK => ?_); simp -implicitDefEqProofs [h]) | refine hK _ ?_ | refine hK _ _ (by rfl) ?_ | (refine ar_call (cp q0 ?_); simp -implicitDefEqProofs [h]) | (refine ard_call (dp q0 ?_); simp -implicitDefEqProofs [h]) | (refine ar_call (cp q1 ?_); simp -implicitDefEqProofs [h]) | (refine ard_call (dp q1 ?_); simp -implicitDefEqProofs [h]) | (refine ar_call (cgw p1 0 2 rfl ?_); simp -implicitDefEqProofs [h]) | (refine ard_call (dgw p1 0 2 rfl ?_); simp -implicitDefEqProofs [h]) | (refine ar_call (cgw p2 0 2 rfl ?_); simp -implicitDefEqProofs [h]) | (refine ard_call (dgw p2 0 2 rfl ?_); simp -implicitDefEqProofs [h]) | (refine ar_call (cgw p3 0 2 rfl ?_); simp -implicitDefEqProofs [h]) | (refine ard_call (dgw p3 0 2 rfl ?_); simp -implicitDefEqProofs [h]) | fail)
    refine fin_fall (fin_gw rfl ?_); simp -implicitDefEqProofs [FinG, resV, resT] <;> try rfl
  | ifn x a c e al cl A C h ha hk hc ic =>
    refine ⟨fun L hL => ?_, nb h (by decide)⟩
    have p := branch0_row LL hLL x a c e al cl A C ha (ic.2 hk) L hL
    generalize [wIf] ++ (A ++ C) = R at *
    refine row_of Tryz.func120 rfl rfl (Nat.le_of_ble_eq_true rfl) ?_
    repeat' (first | refine aw_seq ?_ | refine aw_skip ?_ | refine aw_block ?_ | refine aw_exit ?_ | refine aw_cond rfl (fun _ => ?_) (fun hb => absurd hb (by decide)) | refine aw_cond rfl (fun hb => absurd hb (by decide)) (fun _ => ?_) | (refine aw_reg (fun K hK => ?_); simp -implicitDefEqProofs [h]) | (refine aw_drw mixd (fun K hK => ?_); simp -implicitDefEqProofs [h]) | refine hK _ ?_ | refine hK _ _ (by rfl) ?_ | (refine ar_call (cgw p 0 2 rfl ?_); simp -implicitDefEqProofs [h]) | (refine ard_call (dgw p 0 2 rfl ?_); simp -implicitDefEqProofs [h]) | fail)
    refine fin_fall (fin_gw rfl ?_); simp -implicitDefEqProofs [FinG, resV, resT] <;> try rfl
  | ife x a c e al cl el A C E h ha hk hc he hn hE ic iE =>
    refine ⟨fun L hL => ?_, nb h (by decide)⟩
    have p := branch_row LL hLL x a c e al cl el A C E ha (ic.2 hk) hn (iE.2 he) L hL
    generalize [wIf] ++ (A ++ (C ++ ([wElse] ++ E))) = R at *
    refine row_of Tryz.func120 rfl rfl (Nat.le_of_ble_eq_true rfl) ?_
    repeat' (first | refine aw_seq ?_ | refine aw_skip ?_ | refine aw_block ?_ | refine aw_exit ?_ | refine aw_cond rfl (fun _ => ?_) (fun hb => absurd hb (by decide)) | refine aw_cond rfl (fun hb => absurd hb (by decide)) (fun _ => ?_) | (refine aw_reg (fun K hK => ?_); simp -implicitDefEqProofs [h]) | (refine aw_drw mixd (fun K hK => ?_); simp -implicitDefEqProofs [h]) | refine hK _ ?_ | refine hK _ _ (by rfl) ?_ | (refine ar_call (cgw p 0 2 rfl ?_); simp -implicitDefEqProofs [h]) | (refine ard_call (dgw p 0 2 rfl ?_); simp -implicitDefEqProofs [h]) | fail)
    refine fin_fall (fin_gw rfl ?_); simp -implicitDefEqProofs [FinG, resV, resT] <;> try rfl
  | whl x a c al cl A C h ha hk hc ic =>
    refine ⟨fun L hL => ?_, nb h (by decide)⟩
    simp only [List.length_append, List.length_singleton] at hL
    have q0 := part_row x [.mk a al, .mk c cl] 0 (.mk a al) rfl (by decide)
    have q1 := part_row x [.mk a al, .mk c cl] 1 (.mk c cl) rfl (by decide)
    have p1 := put_row LL L [wWhil] (by simp; omega)
    have p2 := pexp_row LL hLL ha (L ++ [wWhil]) (by simp; omega)
    have p3 := ic.2 hk (L ++ [wWhil] ++ A) (by simp; omega)
    refine row_of Tryz.func120 rfl rfl (Nat.le_of_ble_eq_true rfl) ?_
    repeat' (first | refine aw_seq ?_ | refine aw_skip ?_ | refine aw_block ?_ | refine aw_exit ?_ | refine aw_cond rfl (fun _ => ?_) (fun hb => absurd hb (by decide)) | refine aw_cond rfl (fun hb => absurd hb (by decide)) (fun _ => ?_) | (refine aw_reg (fun K hK => ?_); simp -implicitDefEqProofs [h]) | (refine aw_drw mixd (fun K hK => ?_); simp -implicitDefEqProofs [h]) | refine hK _ ?_ | refine hK _ _ (by rfl) ?_ | (refine ar_call (cp q0 ?_); simp -implicitDefEqProofs [h]) | (refine ard_call (dp q0 ?_); simp -implicitDefEqProofs [h]) | (refine ar_call (cp q1 ?_); simp -implicitDefEqProofs [h]) | (refine ard_call (dp q1 ?_); simp -implicitDefEqProofs [h]) | (refine ar_call (cgw p1 0 2 rfl ?_); simp -implicitDefEqProofs [h]) | (refine ard_call (dgw p1 0 2 rfl ?_); simp -implicitDefEqProofs [h]) | (refine ar_call (cgw p2 0 2 rfl ?_); simp -implicitDefEqProofs [h]) | (refine ard_call (dgw p2 0 2 rfl ?_); simp -implicitDefEqProofs [h]) | (refine ar_call (cgw p3 0 2 rfl ?_); simp -implicitDefEqProofs [h]) | (refine ard_call (dgw p3 0 2 rfl ?_); simp -implicitDefEqProofs [h]) | fail)
    refine fin_fall (fin_gw rfl ?_); simp -implicitDefEqProofs [FinG, resV, resT] <;> try rfl
  | frr x a b c al bl cl A B C h hs ha hb hk hc ic =>
    refine ⟨fun L hL => ?_, nb h (by decide)⟩
    simp only [List.length_append, List.length_singleton] at hL
    have q0 := part_row x [.mk a al, .mk b bl, .mk c cl] 0 (.mk a al) rfl (by decide)
    have q1 := part_row x [.mk a al, .mk b bl, .mk c cl] 1 (.mk b bl) rfl (by decide)
    have q2 := part_row x [.mk a al, .mk b bl, .mk c cl] 2 (.mk c cl) rfl (by decide)
    have p1 := put_row LL L [wFor] (by simp; omega)
    have p2 := name_row LL (L ++ [wFor]) x.s (by simp; omega)
    have p3 := put_row LL (L ++ [wFor] ++ [x.s]) [sIs] (by simp; omega)
    have p4 := pexp_row LL hLL ha (L ++ [wFor] ++ [x.s] ++ [sIs]) (by simp; omega)
    have p5 := put_row LL (L ++ [wFor] ++ [x.s] ++ [sIs] ++ A) [wTo] (by simp; omega)
    have p6 := pexp_row LL hLL hb (L ++ [wFor] ++ [x.s] ++ [sIs] ++ A ++ [wTo]) (by simp; omega)
    have p7 := ic.2 hk (L ++ [wFor] ++ [x.s] ++ [sIs] ++ A ++ [wTo] ++ B) (by simp; omega)
    refine row_of Tryz.func120 rfl rfl (Nat.le_of_ble_eq_true rfl) ?_
    repeat' (first | refine aw_seq ?_ | refine aw_skip ?_ | refine aw_block ?_ | refine aw_exit ?_ | refine aw_cond rfl (fun _ => ?_) (fun hb => absurd hb (by decide)) | refine aw_cond rfl (fun hb => absurd hb (by decide)) (fun _ => ?_) | (refine aw_reg (fun K hK => ?_); simp -implicitDefEqProofs [h]) | (refine aw_drw mixd (fun K hK => ?_); simp -implicitDefEqProofs [h]) | refine hK _ ?_ | refine hK _ _ (by rfl) ?_ | (refine ar_call (cp q0 ?_); simp -implicitDefEqProofs [h]) | (refine ard_call (dp q0 ?_); simp -implicitDefEqProofs [h]) | (refine ar_call (cp q1 ?_); simp -implicitDefEqProofs [h]) | (refine ard_call (dp q1 ?_); simp -implicitDefEqProofs [h]) | (refine ar_call (cp q2 ?_); simp -implicitDefEqProofs [h]) | (refine ard_call (dp q2 ?_); simp -implicitDefEqProofs [h]) | (refine ar_call (cgw p1 0 2 rfl ?_); simp -implicitDefEqProofs [h]) | (refine ard_call (dgw p1 0 2 rfl ?_); simp -implicitDefEqProofs [h]) | (refine ar_call (cgw p2 0 2 rfl ?_); simp -implicitDefEqProofs [h]) | (refine ard_call (dgw p2 0 2 rfl ?_); simp -implicitDefEqProofs [h]) | (refine ar_call (cgw p3 0 2 rfl ?_); simp -implicitDefEqProofs [h]) | (refine ard_call (dgw p3 0 2 rfl ?_); simp -implicitDefEqProofs [h]) | (refine ar_call (cgw p4 0 2 rfl ?_); simp -implicitDefEqProofs [h]) | (refine ard_call (dgw p4 0 2 rfl ?_); simp -implicitDefEqProofs [h]) | (refine ar_call (cgw p5 0 2 rfl ?_); simp -implicitDefEqProofs [h]) | (refine ard_call (dgw p5 0 2 rfl ?_); simp -implicitDefEqProofs [h]) | (refine ar_call (cgw p6 0 2 rfl ?_); simp -implicitDefEqProofs [h]) | (refine ard_call (dgw p6 0 2 rfl ?_); simp -implicitDefEqProofs [h]) | (refine ar_call (cgw p7 0 2 rfl ?_); simp -implicitDefEqProofs [h]) | (refine ard_call (dgw p7 0 2 rfl ?_); simp -implicitDefEqProofs [h]) | fail)
    refine fin_fall (fin_gw rfl ?_); simp -implicitDefEqProofs [FinG, resV, resT] <;> try rfl
  | prn x a al A h ha =>
    refine ⟨fun L hL => ?_, nb h (by decide)⟩
    simp only [List.length_append, List.length_singleton] at hL
    have q0 := part_row x [.mk a al] 0 (.mk a al) rfl (by decide)
    have p1 := put_row LL L [wPrin] (by simp; omega)
    have p4 := pclosed_row LL hLL ha (L ++ [wPrin]) (by simp; omega)
    refine row_of Tryz.func120 rfl rfl (Nat.le_of_ble_eq_true rfl) ?_
    repeat' (first | refine aw_seq ?_ | refine aw_skip ?_ | refine aw_block ?_ | refine aw_exit ?_ | refine aw_cond rfl (fun _ => ?_) (fun hb => absurd hb (by decide)) | refine aw_cond rfl (fun hb => absurd hb (by decide)) (fun _ => ?_) | (refine aw_reg (fun K hK => ?_); simp -implicitDefEqProofs [h]) | (refine aw_drw mixd (fun K hK => ?_); simp -implicitDefEqProofs [h]) | refine hK _ ?_ | refine hK _ _ (by rfl) ?_ | (refine ar_call (cp q0 ?_); simp -implicitDefEqProofs [h]) | (refine ard_call (dp q0 ?_); simp -implicitDefEqProofs [h]) | (refine ar_call (cgw p1 0 2 rfl ?_); simp -implicitDefEqProofs [h]) | (refine ard_call (dgw p1 0 2 rfl ?_); simp -implicitDefEqProofs [h]) | (refine ar_call (cgw p4 0 2 rfl ?_); simp -implicitDefEqProofs [h]) | (refine ard_call (dgw p4 0 2 rfl ?_); simp -implicitDefEqProofs [h]) | fail)
    refine fin_fall (fin_gw rfl ?_); simp -implicitDefEqProofs [FinG, resV, resT] <;> try rfl
  | rtn x a al A h ha =>
    refine ⟨fun L hL => ?_, nb h (by decide)⟩
    simp only [List.length_append, List.length_singleton] at hL
    have q0 := part_row x [.mk a al] 0 (.mk a al) rfl (by decide)
    have p1 := put_row LL L [wRet] (by simp; omega)
    have p4 := pclosed_row LL hLL ha (L ++ [wRet]) (by simp; omega)
    refine row_of Tryz.func120 rfl rfl (Nat.le_of_ble_eq_true rfl) ?_
    repeat' (first | refine aw_seq ?_ | refine aw_skip ?_ | refine aw_block ?_ | refine aw_exit ?_ | refine aw_cond rfl (fun _ => ?_) (fun hb => absurd hb (by decide)) | refine aw_cond rfl (fun hb => absurd hb (by decide)) (fun _ => ?_) | (refine aw_reg (fun K hK => ?_); simp -implicitDefEqProofs [h]) | (refine aw_drw mixd (fun K hK => ?_); simp -implicitDefEqProofs [h]) | refine hK _ ?_ | refine hK _ _ (by rfl) ?_ | (refine ar_call (cp q0 ?_); simp -implicitDefEqProofs [h]) | (refine ard_call (dp q0 ?_); simp -implicitDefEqProofs [h]) | (refine ar_call (cgw p1 0 2 rfl ?_); simp -implicitDefEqProofs [h]) | (refine ard_call (dgw p1 0 2 rfl ?_); simp -implicitDefEqProofs [h]) | (refine ar_call (cgw p4 0 2 rfl ?_); simp -implicitDefEqProofs [h]) | (refine ard_call (dgw p4 0 2 rfl ?_); simp -implicitDefEqProofs [h]) | fail)
    refine fin_fall (fin_gw rfl ?_); simp -implicitDefEqProofs [FinG, resV, resT] <;> try rfl
  | doo x a al A h ha =>
    refine ⟨fun L hL => ?_, nb h (by decide)⟩
    simp only [List.length_append, List.length_singleton] at hL
    have q0 := part_row x [.mk a al] 0 (.mk a al) rfl (by decide)
    have p1 := put_row LL L [wDo] (by simp; omega)
    have p4 := pclosed_row LL hLL ha (L ++ [wDo]) (by simp; omega)
    refine row_of Tryz.func120 rfl rfl (Nat.le_of_ble_eq_true rfl) ?_
    repeat' (first | refine aw_seq ?_ | refine aw_skip ?_ | refine aw_block ?_ | refine aw_exit ?_ | refine aw_cond rfl (fun _ => ?_) (fun hb => absurd hb (by decide)) | refine aw_cond rfl (fun hb => absurd hb (by decide)) (fun _ => ?_) | (refine aw_reg (fun K hK => ?_); simp -implicitDefEqProofs [h]) | (refine aw_drw mixd (fun K hK => ?_); simp -implicitDefEqProofs [h]) | refine hK _ ?_ | refine hK _ _ (by rfl) ?_ | (refine ar_call (cp q0 ?_); simp -implicitDefEqProofs [h]) | (refine ard_call (dp q0 ?_); simp -implicitDefEqProofs [h]) | (refine ar_call (cgw p1 0 2 rfl ?_); simp -implicitDefEqProofs [h]) | (refine ard_call (dgw p1 0 2 rfl ?_); simp -implicitDefEqProofs [h]) | (refine ar_call (cgw p4 0 2 rfl ?_); simp -implicitDefEqProofs [h]) | (refine ard_call (dgw p4 0 2 rfl ?_); simp -implicitDefEqProofs [h]) | fail)
    refine fin_fall (fin_gw rfl ?_); simp -implicitDefEqProofs [FinG, resV, resT] <;> try rfl
end Go.Proofs.YtlkggpjdaaglmaaGreatDoor.am
end
