import Derived.Test.YtlkggpjdaaglmaaDoorPkE10
import Derived.Test.YtlkggpjdaaglmaaDoorPkE9
section
namespace Go.Proofs.YtlkggpjdaaglmaaDoor.am
open Go.ChangeShapes Go.WideShapes Go.ChangeAt Go.RowKit
open vt
set_option linter.unusedVariables false
set_option linter.unusedSimpArgs false
theorem we_opd {x : Lab} {l : List VT} {W : List ByteArray} (h : WE (.mk x l) W) : Opd x := by
  intro hk
  cases h <;> first | exact ⟨by assumption, by assumption⟩ | omega
theorem we_ne {t : VT} {W : List ByteArray} (h : WE t W) : W ≠ [] := by
  have hp : ∀ {b : Int} {A : List ByteArray} {n : Int}, A ≠ [] → par b A n ≠ [] := fun {b A n} h => by unfold par; split <;> simp [h]
  induction h <;> simp_all
theorem par_le {b : Int} {A : List ByteArray} {n : Int} : A.length ≤ (par b A n).length := by
  unfold par
  split
  · exact Nat.le_refl _
  · simp; omega
theorem opB_rng (n : Int) (h1 : 1 ≤ n) (h2 : n ≤ 13) : 1 ≤ (opB n).2 ∧ (opB n).2 ≤ 5 := by
  have : n = 1 ∨ n = 2 ∨ n = 3 ∨ n = 4 ∨ n = 5 ∨ n = 6 ∨ n = 7 ∨ n = 8 ∨ n = 9 ∨ n = 10 ∨ n = 11 ∨ n = 12 ∨ n = 13 := by omega
  rcases this with rfl | rfl | rfl | rfl | rfl | rfl | rfl | rfl | rfl | rfl | rfl | rfl | rfl <;> decide
set_option maxRecDepth 100000 in
set_option maxHeartbeats 4000000 in
theorem two_row (LL : List (Nat × Array Value)) (x a c : Lab) (al cl : List VT) (A C : List ByteArray) (h1 : 1 ≤ x.n) (h2 : x.n ≤ 13) (ha : WE (.mk a al) A) (hc : WE (.mk c cl) C) (ia : ∀ L : List ByteArray, L.length + 3 * A.length ≤ 1000000 → PRow LL 32 [vT (.mk a al)] L A) (ic : ∀ L : List ByteArray, L.length + 3 * C.length ≤ 1000000 → PRow LL 32 [vT (.mk c cl)] L C) (L : List ByteArray) (hL : L.length + 3 * (par (tgh a) A (if (opB x.n).2 = 3 then 4 else (opB x.n).2) ++ ([(opB x.n).1] ++ par (tgh c) C ((opB x.n).2 + 1))).length ≤ 1000000) : PRow LL 57 [vT (.mk x [.mk a al, .mk c cl])] L (par (tgh a) A (if (opB x.n).2 = 3 then 4 else (opB x.n).2) ++ ([(opB x.n).1] ++ par (tgh c) C ((opB x.n).2 + 1))) := by
  have o := oper_row x.n h1 h2
  have q0 := part_row x [.mk a al, .mk c cl] 0 (.mk a al) rfl (by decide)
  have q1 := part_row x [.mk a al, .mk c cl] 1 (.mk c cl) rfl (by decide)
  have hb := opB_rng x.n h1 h2
  generalize opB x.n = r at o hb hL ⊢
  obtain ⟨sg, b⟩ := r
  dsimp only at o hb hL ⊢
  have w1 : IntKind.i64.wrap (b + 1) = b + 1 := i64i _ (by omega) (by omega)
  simp only [List.length_append, List.length_singleton] at hL
  by_cases h3 : b = 3
  · subst h3
    rw [if_pos rfl] at hL ⊢
    have p1 := operand_row LL a al A (we_opd ha) 4 (we_ne ha) ia L (by omega)
    have p2 := put_row LL (L ++ par (tgh a) A 4) [sg] (by simp; omega)
    have p3 := operand_row LL c cl C (we_opd hc) (3 + 1) (we_ne hc) ic (L ++ par (tgh a) A 4 ++ [sg]) (by simp only [List.length_append, List.length_singleton]; omega)
    generalize par (tgh a) A 4 = PA at *
    generalize par (tgh c) C (3 + 1) = PC at *
    refine row_of Tryd.func57 rfl rfl (Nat.le_of_ble_eq_true rfl) ?_
    repeat' (first | refine aw_seq ?_ | refine aw_skip ?_ | refine aw_block ?_ | refine aw_exit ?_ | refine aw_cond rfl (fun _ => ?_) (fun hb => absurd hb (by decide)) | refine aw_cond rfl (fun hb => absurd hb (by decide)) (fun _ => ?_) | (refine aw_reg (fun K hK => ?_); simp -implicitDefEqProofs [i64i]) | (refine aw_drw mixd (fun K hK => ?_); simp -implicitDefEqProofs [i64i]) | refine hK _ ?_ | refine hK _ _ (by rfl) ?_ | (refine ar_call (cp o ?_); simp -implicitDefEqProofs [i64i]) | (refine ard_call (dp o ?_); simp -implicitDefEqProofs [i64i]) | (refine ar_call (cp q0 ?_); simp -implicitDefEqProofs [i64i]) | (refine ard_call (dp q0 ?_); simp -implicitDefEqProofs [i64i]) | (refine ar_call (cp q1 ?_); simp -implicitDefEqProofs [i64i]) | (refine ard_call (dp q1 ?_); simp -implicitDefEqProofs [i64i]) | (refine ar_call (cgw p1 0 2 rfl ?_); simp -implicitDefEqProofs [i64i]) | (refine ard_call (dgw p1 0 2 rfl ?_); simp -implicitDefEqProofs [i64i]) | (refine ar_call (cgw p2 0 2 rfl ?_); simp -implicitDefEqProofs [i64i]) | (refine ard_call (dgw p2 0 2 rfl ?_); simp -implicitDefEqProofs [i64i]) | (refine ar_call (cgw p3 0 2 rfl ?_); simp -implicitDefEqProofs [i64i]) | (refine ard_call (dgw p3 0 2 rfl ?_); simp -implicitDefEqProofs [i64i]) | fail)
    refine fin_fall (fin_gw rfl ?_); simp -implicitDefEqProofs [FinG, resV, resT] <;> try rfl
  · rw [if_neg h3] at hL ⊢
    have p1 := operand_row LL a al A (we_opd ha) b (we_ne ha) ia L (by omega)
    have p2 := put_row LL (L ++ par (tgh a) A b) [sg] (by simp; omega)
    have p3 := operand_row LL c cl C (we_opd hc) (b + 1) (we_ne hc) ic (L ++ par (tgh a) A b ++ [sg]) (by simp only [List.length_append, List.length_singleton]; omega)
    generalize par (tgh a) A b = PA at *
    generalize par (tgh c) C (b + 1) = PC at *
    refine row_of Tryd.func57 rfl rfl (Nat.le_of_ble_eq_true rfl) ?_
    repeat' (first | refine aw_seq ?_ | refine aw_skip ?_ | refine aw_block ?_ | refine aw_exit ?_ | refine aw_cond rfl (fun _ => ?_) (fun hb => absurd hb (by decide)) | refine aw_cond rfl (fun hb => absurd hb (by decide)) (fun _ => ?_) | (refine aw_reg (fun K hK => ?_); simp -implicitDefEqProofs [h3, w1]) | (refine aw_drw mixd (fun K hK => ?_); simp -implicitDefEqProofs [h3, w1]) | refine hK _ ?_ | refine hK _ _ (by rfl) ?_ | (refine ar_call (cp o ?_); simp -implicitDefEqProofs [h3, w1]) | (refine ard_call (dp o ?_); simp -implicitDefEqProofs [h3, w1]) | (refine ar_call (cp q0 ?_); simp -implicitDefEqProofs [h3, w1]) | (refine ard_call (dp q0 ?_); simp -implicitDefEqProofs [h3, w1]) | (refine ar_call (cp q1 ?_); simp -implicitDefEqProofs [h3, w1]) | (refine ard_call (dp q1 ?_); simp -implicitDefEqProofs [h3, w1]) | (refine ar_call (cgw p1 0 2 rfl ?_); simp -implicitDefEqProofs [h3, w1]) | (refine ard_call (dgw p1 0 2 rfl ?_); simp -implicitDefEqProofs [h3, w1]) | (refine ar_call (cgw p2 0 2 rfl ?_); simp -implicitDefEqProofs [h3, w1]) | (refine ard_call (dgw p2 0 2 rfl ?_); simp -implicitDefEqProofs [h3, w1]) | (refine ar_call (cgw p3 0 2 rfl ?_); simp -implicitDefEqProofs [h3, w1]) | (refine ard_call (dgw p3 0 2 rfl ?_); simp -implicitDefEqProofs [h3, w1]) | fail)
    refine fin_fall (fin_gw rfl ?_); simp -implicitDefEqProofs [FinG, resV, resT] <;> try rfl
set_option maxRecDepth 100000 in
set_option maxHeartbeats 4000000 in
theorem one_row (LL : List (Nat × Array Value)) (x a : Lab) (al : List VT) (A : List ByteArray) (sg : ByteArray) (hn : (x.n = 1 ∧ sg = sMin) ∨ (x.n = 2 ∧ sg = sNot)) (ha : WE (.mk a al) A) (ia : ∀ L : List ByteArray, L.length + 3 * A.length ≤ 1000000 → PRow LL 32 [vT (.mk a al)] L A) (L : List ByteArray) (hL : L.length + 3 * ([sg] ++ par (tgh a) A 6).length ≤ 1000000) : PRow LL 58 [vT (.mk x [.mk a al])] L ([sg] ++ par (tgh a) A 6) := by
  have q0 := part_row x [.mk a al] 0 (.mk a al) rfl (by decide)
  simp only [List.length_append, List.length_singleton] at hL
  have p2 := put_row LL L [sg] (by simp; omega)
  have p3 := operand_row LL a al A (we_opd ha) 6 (we_ne ha) ia (L ++ [sg]) (by simp; omega)
  generalize par (tgh a) A 6 = PA at *
  rcases hn with ⟨hn, rfl⟩ | ⟨hn, rfl⟩
  · refine row_of Tryd.func58 rfl rfl (Nat.le_of_ble_eq_true rfl) ?_
    repeat' (first | refine aw_seq ?_ | refine aw_skip ?_ | refine aw_block ?_ | refine aw_exit ?_ | refine aw_cond rfl (fun _ => ?_) (fun hb => absurd hb (by decide)) | refine aw_cond rfl (fun hb => absurd hb (by decide)) (fun _ => ?_) | (refine aw_reg (fun K hK => ?_); simp -implicitDefEqProofs [hn]) | (refine aw_drw mixd (fun K hK => ?_); simp -implicitDefEqProofs [hn]) | refine hK _ ?_ | refine hK _ _ (by rfl) ?_ | (refine ar_call (cp q0 ?_); simp -implicitDefEqProofs [hn]) | (refine ard_call (dp q0 ?_); simp -implicitDefEqProofs [hn]) | (refine ar_call (cgw p2 0 2 rfl ?_); simp -implicitDefEqProofs [hn]) | (refine ard_call (dgw p2 0 2 rfl ?_); simp -implicitDefEqProofs [hn]) | (refine ar_call (cgw p3 0 2 rfl ?_); simp -implicitDefEqProofs [hn]) | (refine ard_call (dgw p3 0 2 rfl ?_); simp -implicitDefEqProofs [hn]) | fail)
    refine fin_fall (fin_gw rfl ?_); simp -implicitDefEqProofs [FinG, resV, resT] <;> try rfl
  · refine row_of Tryd.func58 rfl rfl (Nat.le_of_ble_eq_true rfl) ?_
    repeat' (first | refine aw_seq ?_ | refine aw_skip ?_ | refine aw_block ?_ | refine aw_exit ?_ | refine aw_cond rfl (fun _ => ?_) (fun hb => absurd hb (by decide)) | refine aw_cond rfl (fun hb => absurd hb (by decide)) (fun _ => ?_) | (refine aw_reg (fun K hK => ?_); simp -implicitDefEqProofs [hn]) | (refine aw_drw mixd (fun K hK => ?_); simp -implicitDefEqProofs [hn]) | refine hK _ ?_ | refine hK _ _ (by rfl) ?_ | (refine ar_call (cp q0 ?_); simp -implicitDefEqProofs [hn]) | (refine ard_call (dp q0 ?_); simp -implicitDefEqProofs [hn]) | (refine ar_call (cgw p2 0 2 rfl ?_); simp -implicitDefEqProofs [hn]) | (refine ard_call (dgw p2 0 2 rfl ?_); simp -implicitDefEqProofs [hn]) | (refine ar_call (cgw p3 0 2 rfl ?_); simp -implicitDefEqProofs [hn]) | (refine ard_call (dgw p3 0 2 rfl ?_); simp -implicitDefEqProofs [hn]) | fail)
    refine fin_fall (fin_gw rfl ?_); simp -implicitDefEqProofs [FinG, resV, resT] <;> try rfl
def brW (x : Lab) : List ByteArray × ByteArray := if x.k = 14 then ([sOpen], sShut) else if x.k = 15 then ([wNew, x.s, sParO], sParS) else if x.k = 16 then ([x.s, sParO], sParS) else ([sAt, x.s, sParO], sParS)
set_option maxRecDepth 100000 in
set_option maxHeartbeats 4000000 in
theorem brack_row (LL : List (Nat × Array Value)) (x : Lab) (l : List VT) (Ws : List (List ByteArray)) (hk : x.k = 14 ∨ x.k = 15 ∨ x.k = 16 ∨ x.k = 17) (hl : l.length = Ws.length) (hn : l.length ≤ 1000000) (ih : ∀ (i : Nat) t W, l[i]? = some t → Ws[i]? = some W → ∀ L : List ByteArray, L.length + 3 * W.length ≤ 1000000 → PRow LL 32 [vT t] L W) (L : List ByteArray) (hL : L.length + 3 * ((brW x).1 ++ (pre [sCom] Ws ++ [(brW x).2])).length ≤ 1000000) : PRow LL 61 [vT (.mk x l)] L ((brW x).1 ++ (pre [sCom] Ws ++ [(brW x).2])) := by
  have hc : (if sCom = ⟨#[]⟩ then [] else [sCom]) = [sCom] := if_neg (by decide)
  have pl := fun L' hL' => plist_row LL 32 sCom l Ws hl hn ih L' hL'
  rw [hc] at pl
  rcases hk with h | h | h | h
  · have e : brW x = ([sOpen], sShut) := by unfold brW; rw [if_pos h]
    rw [e] at hL ⊢
    simp only [List.length_append, List.length_singleton] at hL
    have p1 := put_row LL L [sOpen] (by simp; omega)
    have p2 := pl (L ++ [sOpen]) (by simp; omega)
    have p3 := put_row LL (L ++ [sOpen] ++ pre [sCom] Ws) [sShut] (by simp; omega)
    generalize pre [sCom] Ws = PW at *
    clear pl
    refine row_of Tryd.func61 rfl rfl (Nat.le_of_ble_eq_true rfl) ?_
    repeat' (first | refine aw_seq ?_ | refine aw_skip ?_ | refine aw_block ?_ | refine aw_exit ?_ | refine aw_cond rfl (fun _ => ?_) (fun hb => absurd hb (by decide)) | refine aw_cond rfl (fun hb => absurd hb (by decide)) (fun _ => ?_) | (refine aw_reg (fun K hK => ?_); simp -implicitDefEqProofs [h]) | (refine aw_drw mixd (fun K hK => ?_); simp -implicitDefEqProofs [h]) | refine hK _ ?_ | refine hK _ _ (by rfl) ?_ | (refine ar_call (cgw p1 0 2 rfl ?_); simp -implicitDefEqProofs [h]) | (refine ard_call (dgw p1 0 2 rfl ?_); simp -implicitDefEqProofs [h]) | (refine ar_call (cgw p2 0 2 rfl ?_); simp -implicitDefEqProofs [h]) | (refine ard_call (dgw p2 0 2 rfl ?_); simp -implicitDefEqProofs [h]) | (refine ar_call (cgw p3 0 2 rfl ?_); simp -implicitDefEqProofs [h]) | (refine ard_call (dgw p3 0 2 rfl ?_); simp -implicitDefEqProofs [h]) | fail)
    refine fin_fall (fin_gw rfl ?_); simp -implicitDefEqProofs [FinG, resV, resT] <;> try rfl
  · have e : brW x = ([wNew, x.s, sParO], sParS) := by unfold brW; rw [if_neg (by omega), if_pos h]
    rw [e] at hL ⊢
    simp only [List.length_append, List.length_cons, List.length_nil] at hL
    have p0 := put_row LL L [wNew] (by simp; omega)
    have p0' := name_row LL (L ++ [wNew]) x.s (by simp; omega)
    have p1 := put_row LL (L ++ [wNew] ++ [x.s]) [sParO] (by simp; omega)
    have p2 := pl (L ++ [wNew] ++ [x.s] ++ [sParO]) (by simp; omega)
    have p3 := put_row LL (L ++ [wNew] ++ [x.s] ++ [sParO] ++ pre [sCom] Ws) [sParS] (by simp; omega)
    generalize pre [sCom] Ws = PW at *
    clear pl
    refine row_of Tryd.func61 rfl rfl (Nat.le_of_ble_eq_true rfl) ?_
    repeat' (first | refine aw_seq ?_ | refine aw_skip ?_ | refine aw_block ?_ | refine aw_exit ?_ | refine aw_cond rfl (fun _ => ?_) (fun hb => absurd hb (by decide)) | refine aw_cond rfl (fun hb => absurd hb (by decide)) (fun _ => ?_) | (refine aw_reg (fun K hK => ?_); simp -implicitDefEqProofs [h]) | (refine aw_drw mixd (fun K hK => ?_); simp -implicitDefEqProofs [h]) | refine hK _ ?_ | refine hK _ _ (by rfl) ?_ | (refine ar_call (cgw p0 0 2 rfl ?_); simp -implicitDefEqProofs [h]) | (refine ard_call (dgw p0 0 2 rfl ?_); simp -implicitDefEqProofs [h]) | (refine ar_call (cgw p0' 0 2 rfl ?_); simp -implicitDefEqProofs [h]) | (refine ard_call (dgw p0' 0 2 rfl ?_); simp -implicitDefEqProofs [h]) | (refine ar_call (cgw p1 0 2 rfl ?_); simp -implicitDefEqProofs [h]) | (refine ard_call (dgw p1 0 2 rfl ?_); simp -implicitDefEqProofs [h]) | (refine ar_call (cgw p2 0 2 rfl ?_); simp -implicitDefEqProofs [h]) | (refine ard_call (dgw p2 0 2 rfl ?_); simp -implicitDefEqProofs [h]) | (refine ar_call (cgw p3 0 2 rfl ?_); simp -implicitDefEqProofs [h]) | (refine ard_call (dgw p3 0 2 rfl ?_); simp -implicitDefEqProofs [h]) | fail)
    refine fin_fall (fin_gw rfl ?_); simp -implicitDefEqProofs [FinG, resV, resT] <;> try rfl
  · have e : brW x = ([x.s, sParO], sParS) := by unfold brW; rw [if_neg (by omega), if_neg (by omega), if_pos h]
    rw [e] at hL ⊢
    simp only [List.length_append, List.length_cons, List.length_nil] at hL
    have p0' := name_row LL L x.s (by omega)
    have p1 := put_row LL (L ++ [x.s]) [sParO] (by simp; omega)
    have p2 := pl (L ++ [x.s] ++ [sParO]) (by simp; omega)
    have p3 := put_row LL (L ++ [x.s] ++ [sParO] ++ pre [sCom] Ws) [sParS] (by simp; omega)
    generalize pre [sCom] Ws = PW at *
    clear pl
    refine row_of Tryd.func61 rfl rfl (Nat.le_of_ble_eq_true rfl) ?_
    repeat' (first | refine aw_seq ?_ | refine aw_skip ?_ | refine aw_block ?_ | refine aw_exit ?_ | refine aw_cond rfl (fun _ => ?_) (fun hb => absurd hb (by decide)) | refine aw_cond rfl (fun hb => absurd hb (by decide)) (fun _ => ?_) | (refine aw_reg (fun K hK => ?_); simp -implicitDefEqProofs [h]) | (refine aw_drw mixd (fun K hK => ?_); simp -implicitDefEqProofs [h]) | refine hK _ ?_ | refine hK _ _ (by rfl) ?_ | (refine ar_call (cgw p0' 0 2 rfl ?_); simp -implicitDefEqProofs [h]) | (refine ard_call (dgw p0' 0 2 rfl ?_); simp -implicitDefEqProofs [h]) | (refine ar_call (cgw p1 0 2 rfl ?_); simp -implicitDefEqProofs [h]) | (refine ard_call (dgw p1 0 2 rfl ?_); simp -implicitDefEqProofs [h]) | (refine ar_call (cgw p2 0 2 rfl ?_); simp -implicitDefEqProofs [h]) | (refine ard_call (dgw p2 0 2 rfl ?_); simp -implicitDefEqProofs [h]) | (refine ar_call (cgw p3 0 2 rfl ?_); simp -implicitDefEqProofs [h]) | (refine ard_call (dgw p3 0 2 rfl ?_); simp -implicitDefEqProofs [h]) | fail)
    refine fin_fall (fin_gw rfl ?_); simp -implicitDefEqProofs [FinG, resV, resT] <;> try rfl
  · have e : brW x = ([sAt, x.s, sParO], sParS) := by unfold brW; rw [if_neg (by omega), if_neg (by omega), if_neg (by omega)]
    rw [e] at hL ⊢
    simp only [List.length_append, List.length_cons, List.length_nil] at hL
    have p0 := put_row LL L [sAt] (by simp; omega)
    have p0' := name_row LL (L ++ [sAt]) x.s (by simp; omega)
    have p1 := put_row LL (L ++ [sAt] ++ [x.s]) [sParO] (by simp; omega)
    have p2 := pl (L ++ [sAt] ++ [x.s] ++ [sParO]) (by simp; omega)
    have p3 := put_row LL (L ++ [sAt] ++ [x.s] ++ [sParO] ++ pre [sCom] Ws) [sParS] (by simp; omega)
    generalize pre [sCom] Ws = PW at *
    clear pl
    refine row_of Tryd.func61 rfl rfl (Nat.le_of_ble_eq_true rfl) ?_
    repeat' (first | refine aw_seq ?_ | refine aw_skip ?_ | refine aw_block ?_ | refine aw_exit ?_ | refine aw_cond rfl (fun _ => ?_) (fun hb => absurd hb (by decide)) | refine aw_cond rfl (fun hb => absurd hb (by decide)) (fun _ => ?_) | (refine aw_reg (fun K hK => ?_); simp -implicitDefEqProofs [h]) | (refine aw_drw mixd (fun K hK => ?_); simp -implicitDefEqProofs [h]) | refine hK _ ?_ | refine hK _ _ (by rfl) ?_ | (refine ar_call (cgw p0 0 2 rfl ?_); simp -implicitDefEqProofs [h]) | (refine ard_call (dgw p0 0 2 rfl ?_); simp -implicitDefEqProofs [h]) | (refine ar_call (cgw p0' 0 2 rfl ?_); simp -implicitDefEqProofs [h]) | (refine ard_call (dgw p0' 0 2 rfl ?_); simp -implicitDefEqProofs [h]) | (refine ar_call (cgw p1 0 2 rfl ?_); simp -implicitDefEqProofs [h]) | (refine ard_call (dgw p1 0 2 rfl ?_); simp -implicitDefEqProofs [h]) | (refine ar_call (cgw p2 0 2 rfl ?_); simp -implicitDefEqProofs [h]) | (refine ard_call (dgw p2 0 2 rfl ?_); simp -implicitDefEqProofs [h]) | (refine ar_call (cgw p3 0 2 rfl ?_); simp -implicitDefEqProofs [h]) | (refine ard_call (dgw p3 0 2 rfl ?_); simp -implicitDefEqProofs [h]) | fail)
    refine fin_fall (fin_gw rfl ?_); simp -implicitDefEqProofs [FinG, resV, resT] <;> try rfl
end Go.Proofs.YtlkggpjdaaglmaaDoor.am
end
section
namespace Go.Proofs.YtlkggpjdaaglmaaDoor.am
open Go.ChangeShapes Go.WideShapes Go.ChangeAt Go.RowKit
open vt
set_option linter.unusedVariables false
set_option linter.unusedSimpArgs false
theorem wds_len (sep : List ByteArray) : ∀ r : List (List ByteArray), (∀ W ∈ r, W ≠ []) → r.length ≤ ((r.map (sep ++ ·)).flatten).length
  | [], _ => Nat.zero_le _
  | b :: r, h => by
    have h3 := List.length_pos_iff.2 (h b (.head _))
    have := wds_len sep r (fun W hW => h W (.tail _ hW))
    simp only [List.map_cons, List.flatten_cons, List.length_append, List.length_cons] at *
    omega
theorem ws_kids {l : List VT} {Ws : List (List ByteArray)} (hl : l.length = Ws.length) (hw : ∀ (i : Nat) t W, l[i]? = some t → Ws[i]? = some W → W ≠ []) (sep : List ByteArray) : l.length ≤ (pre sep Ws).length := by
  have hW : ∀ W ∈ Ws, W ≠ [] := fun W hW => by
    obtain ⟨i, hi⟩ := List.mem_iff_getElem?.1 hW
    have hlt := (List.getElem?_eq_some_iff.1 hi).1
    exact hw i _ W (List.getElem?_eq_getElem (by omega)) hi
  rw [hl]
  cases Ws with
  | nil => exact Nat.zero_le _
  | cons a r =>
    unfold pre
    have h1 := List.length_pos_iff.2 (hW a (.head _))
    have h2 := wds_len sep r (fun W h => hW W (.tail _ h))
    rw [List.length_append, List.length_cons]
    omega
set_option maxRecDepth 100000 in
set_option maxHeartbeats 4000000 in
theorem pexp_row (LL : List (Nat × Array Value)) (hLL : LibN LL) {t : VT} {W : List ByteArray} (hW : WE t W) : ∀ L : List ByteArray, L.length + 3 * W.length ≤ 1000000 → PRow LL 32 [vT t] L W := by
  induction hW with
  | num x h h0 h1 =>
    intro L hL
    have p := number_row LL hLL L x.n h0 h1 (by simp at hL; omega)
    refine row_of Tryd.func32 rfl rfl (Nat.le_of_ble_eq_true rfl) ?_
    repeat' (first | refine aw_seq ?_ | refine aw_skip ?_ | refine aw_block ?_ | refine aw_exit ?_ | refine aw_cond rfl (fun _ => ?_) (fun hb => absurd hb (by decide)) | refine aw_cond rfl (fun hb => absurd hb (by decide)) (fun _ => ?_) | (refine aw_reg (fun K hK => ?_); simp -implicitDefEqProofs [h]) | (refine aw_drw mixd (fun K hK => ?_); simp -implicitDefEqProofs [h]) | refine hK _ ?_ | refine hK _ _ (by rfl) ?_ | (refine ar_call (cgw p 0 2 rfl ?_); simp -implicitDefEqProofs [h]) | (refine ard_call (dgw p 0 2 rfl ?_); simp -implicitDefEqProofs [h]) | fail)
    refine fin_fall (fin_gw rfl ?_); simp -implicitDefEqProofs [FinG, resV, resT] <;> try rfl
  | tru x h hn =>
    intro L hL
    have p := put_row LL L [wTrue] (by simp at hL ⊢; omega)
    refine row_of Tryd.func32 rfl rfl (Nat.le_of_ble_eq_true rfl) ?_
    repeat' (first | refine aw_seq ?_ | refine aw_skip ?_ | refine aw_block ?_ | refine aw_exit ?_ | refine aw_cond rfl (fun _ => ?_) (fun hb => absurd hb (by decide)) | refine aw_cond rfl (fun hb => absurd hb (by decide)) (fun _ => ?_) | (refine aw_reg (fun K hK => ?_); simp -implicitDefEqProofs [h, hn]) | (refine aw_drw mixd (fun K hK => ?_); simp -implicitDefEqProofs [h, hn]) | refine hK _ ?_ | refine hK _ _ (by rfl) ?_ | (refine ar_call (cgw p 0 2 rfl ?_); simp -implicitDefEqProofs [h, hn]) | (refine ard_call (dgw p 0 2 rfl ?_); simp -implicitDefEqProofs [h, hn]) | fail)
    refine fin_fall (fin_gw rfl ?_); simp -implicitDefEqProofs [FinG, resV, resT] <;> try rfl
  | fls x h hn =>
    intro L hL
    have p := put_row LL L [wFals] (by simp at hL ⊢; omega)
    refine row_of Tryd.func32 rfl rfl (Nat.le_of_ble_eq_true rfl) ?_
    repeat' (first | refine aw_seq ?_ | refine aw_skip ?_ | refine aw_block ?_ | refine aw_exit ?_ | refine aw_cond rfl (fun _ => ?_) (fun hb => absurd hb (by decide)) | refine aw_cond rfl (fun hb => absurd hb (by decide)) (fun _ => ?_) | (refine aw_reg (fun K hK => ?_); simp -implicitDefEqProofs [h, hn]) | (refine aw_drw mixd (fun K hK => ?_); simp -implicitDefEqProofs [h, hn]) | refine hK _ ?_ | refine hK _ _ (by rfl) ?_ | (refine ar_call (cgw p 0 2 rfl ?_); simp -implicitDefEqProofs [h, hn]) | (refine ard_call (dgw p 0 2 rfl ?_); simp -implicitDefEqProofs [h, hn]) | fail)
    refine fin_fall (fin_gw rfl ?_); simp -implicitDefEqProofs [FinG, resV, resT] <;> try rfl
  | read x h =>
    intro L hL
    have p := put_row LL L [wRead] (by simp at hL ⊢; omega)
    refine row_of Tryd.func32 rfl rfl (Nat.le_of_ble_eq_true rfl) ?_
    repeat' (first | refine aw_seq ?_ | refine aw_skip ?_ | refine aw_block ?_ | refine aw_exit ?_ | refine aw_cond rfl (fun _ => ?_) (fun hb => absurd hb (by decide)) | refine aw_cond rfl (fun hb => absurd hb (by decide)) (fun _ => ?_) | (refine aw_reg (fun K hK => ?_); simp -implicitDefEqProofs [h]) | (refine aw_drw mixd (fun K hK => ?_); simp -implicitDefEqProofs [h]) | refine hK _ ?_ | refine hK _ _ (by rfl) ?_ | (refine ar_call (cgw p 0 2 rfl ?_); simp -implicitDefEqProofs [h]) | (refine ard_call (dgw p 0 2 rfl ?_); simp -implicitDefEqProofs [h]) | fail)
    refine fin_fall (fin_gw rfl ?_); simp -implicitDefEqProofs [FinG, resV, resT] <;> try rfl
  | nam x h hs =>
    intro L hL
    have p := name_row LL L x.s (by simp at hL; omega)
    refine row_of Tryd.func32 rfl rfl (Nat.le_of_ble_eq_true rfl) ?_
    repeat' (first | refine aw_seq ?_ | refine aw_skip ?_ | refine aw_block ?_ | refine aw_exit ?_ | refine aw_cond rfl (fun _ => ?_) (fun hb => absurd hb (by decide)) | refine aw_cond rfl (fun hb => absurd hb (by decide)) (fun _ => ?_) | (refine aw_reg (fun K hK => ?_); simp -implicitDefEqProofs [h]) | (refine aw_drw mixd (fun K hK => ?_); simp -implicitDefEqProofs [h]) | refine hK _ ?_ | refine hK _ _ (by rfl) ?_ | (refine ar_call (cgw p 0 2 rfl ?_); simp -implicitDefEqProofs [h]) | (refine ard_call (dgw p 0 2 rfl ?_); simp -implicitDefEqProofs [h]) | fail)
    refine fin_fall (fin_gw rfl ?_); simp -implicitDefEqProofs [FinG, resV, resT] <;> try rfl
  | bin x a c al cl A C h h1 h2 ha hc ia ic =>
    intro L hL
    have p := two_row LL x a c al cl A C h1 h2 ha hc ia ic L hL
    generalize (par (tgh a) A (if (opB x.n).2 = 3 then 4 else (opB x.n).2) ++ ([(opB x.n).1] ++ par (tgh c) C ((opB x.n).2 + 1))) = R at *
    refine row_of Tryd.func32 rfl rfl (Nat.le_of_ble_eq_true rfl) ?_
    repeat' (first | refine aw_seq ?_ | refine aw_skip ?_ | refine aw_block ?_ | refine aw_exit ?_ | refine aw_cond rfl (fun _ => ?_) (fun hb => absurd hb (by decide)) | refine aw_cond rfl (fun hb => absurd hb (by decide)) (fun _ => ?_) | (refine aw_reg (fun K hK => ?_); simp -implicitDefEqProofs [h]) | (refine aw_drw mixd (fun K hK => ?_); simp -implicitDefEqProofs [h]) | refine hK _ ?_ | refine hK _ _ (by rfl) ?_ | (refine ar_call (cgw p 0 2 rfl ?_); simp -implicitDefEqProofs [h]) | (refine ard_call (dgw p 0 2 rfl ?_); simp -implicitDefEqProofs [h]) | fail)
    refine fin_fall (fin_gw rfl ?_); simp -implicitDefEqProofs [FinG, resV, resT] <;> try rfl
  | neg x a al A h hn ha ia =>
    intro L hL
    have p := one_row LL x a al A sMin (.inl ⟨hn, rfl⟩) ha ia L hL
    generalize [sMin] ++ par (tgh a) A 6 = R at *
    refine row_of Tryd.func32 rfl rfl (Nat.le_of_ble_eq_true rfl) ?_
    repeat' (first | refine aw_seq ?_ | refine aw_skip ?_ | refine aw_block ?_ | refine aw_exit ?_ | refine aw_cond rfl (fun _ => ?_) (fun hb => absurd hb (by decide)) | refine aw_cond rfl (fun hb => absurd hb (by decide)) (fun _ => ?_) | (refine aw_reg (fun K hK => ?_); simp -implicitDefEqProofs [h]) | (refine aw_drw mixd (fun K hK => ?_); simp -implicitDefEqProofs [h]) | refine hK _ ?_ | refine hK _ _ (by rfl) ?_ | (refine ar_call (cgw p 0 2 rfl ?_); simp -implicitDefEqProofs [h]) | (refine ard_call (dgw p 0 2 rfl ?_); simp -implicitDefEqProofs [h]) | fail)
    refine fin_fall (fin_gw rfl ?_); simp -implicitDefEqProofs [FinG, resV, resT] <;> try rfl
  | nt x a al A h hn ha ia =>
    intro L hL
    have p := one_row LL x a al A sNot (.inr ⟨hn, rfl⟩) ha ia L hL
    generalize [sNot] ++ par (tgh a) A 6 = R at *
    refine row_of Tryd.func32 rfl rfl (Nat.le_of_ble_eq_true rfl) ?_
    repeat' (first | refine aw_seq ?_ | refine aw_skip ?_ | refine aw_block ?_ | refine aw_exit ?_ | refine aw_cond rfl (fun _ => ?_) (fun hb => absurd hb (by decide)) | refine aw_cond rfl (fun hb => absurd hb (by decide)) (fun _ => ?_) | (refine aw_reg (fun K hK => ?_); simp -implicitDefEqProofs [h]) | (refine aw_drw mixd (fun K hK => ?_); simp -implicitDefEqProofs [h]) | refine hK _ ?_ | refine hK _ _ (by rfl) ?_ | (refine ar_call (cgw p 0 2 rfl ?_); simp -implicitDefEqProofs [h]) | (refine ard_call (dgw p 0 2 rfl ?_); simp -implicitDefEqProofs [h]) | fail)
    refine fin_fall (fin_gw rfl ?_); simp -implicitDefEqProofs [FinG, resV, resT] <;> try rfl
  | idx x a c al cl A C h ha hc ia ic =>
    intro L hL
    simp only [List.length_append, List.length_cons, List.length_nil] at hL
    have q0 := part_row x [.mk a al, .mk c cl] 0 (.mk a al) rfl (by decide)
    have q1 := part_row x [.mk a al, .mk c cl] 1 (.mk c cl) rfl (by decide)
    have p1 := operand_row LL a al A (we_opd ha) 7 (we_ne ha) ia L (by omega)
    have p2 := put_row LL (L ++ par (tgh a) A 7) [sOpen] (by simp; omega)
    have p3 := ic (L ++ par (tgh a) A 7 ++ [sOpen]) (by simp; omega)
    have p4 := put_row LL (L ++ par (tgh a) A 7 ++ [sOpen] ++ C) [sShut] (by simp; omega)
    generalize par (tgh a) A 7 = PA at *
    refine row_of Tryd.func32 rfl rfl (Nat.le_of_ble_eq_true rfl) ?_
    repeat' (first | refine aw_seq ?_ | refine aw_skip ?_ | refine aw_block ?_ | refine aw_exit ?_ | refine aw_cond rfl (fun _ => ?_) (fun hb => absurd hb (by decide)) | refine aw_cond rfl (fun hb => absurd hb (by decide)) (fun _ => ?_) | (refine aw_reg (fun K hK => ?_); simp -implicitDefEqProofs [h]) | (refine aw_drw mixd (fun K hK => ?_); simp -implicitDefEqProofs [h]) | refine hK _ ?_ | refine hK _ _ (by rfl) ?_ | (refine ar_call (cp q0 ?_); simp -implicitDefEqProofs [h]) | (refine ard_call (dp q0 ?_); simp -implicitDefEqProofs [h]) | (refine ar_call (cp q1 ?_); simp -implicitDefEqProofs [h]) | (refine ard_call (dp q1 ?_); simp -implicitDefEqProofs [h]) | (refine ar_call (cgw p1 0 2 rfl ?_); simp -implicitDefEqProofs [h]) | (refine ard_call (dgw p1 0 2 rfl ?_); simp -implicitDefEqProofs [h]) | (refine ar_call (cgw p2 0 2 rfl ?_); simp -implicitDefEqProofs [h]) | (refine ard_call (dgw p2 0 2 rfl ?_); simp -implicitDefEqProofs [h]) | (refine ar_call (cgw p3 0 2 rfl ?_); simp -implicitDefEqProofs [h]) | (refine ard_call (dgw p3 0 2 rfl ?_); simp -implicitDefEqProofs [h]) | (refine ar_call (cgw p4 0 2 rfl ?_); simp -implicitDefEqProofs [h]) | (refine ard_call (dgw p4 0 2 rfl ?_); simp -implicitDefEqProofs [h]) | fail)
    refine fin_fall (fin_gw rfl ?_); simp -implicitDefEqProofs [FinG, resV, resT] <;> try rfl
  | fld x a al A h hs ha ia =>
    intro L hL
    simp only [List.length_append, List.length_cons, List.length_nil] at hL
    have q0 := part_row x [.mk a al] 0 (.mk a al) rfl (by decide)
    have p1 := operand_row LL a al A (we_opd ha) 7 (we_ne ha) ia L (by omega)
    have p2 := put_row LL (L ++ par (tgh a) A 7) [sDot] (by simp; omega)
    have p3 := name_row LL (L ++ par (tgh a) A 7 ++ [sDot]) x.s (by simp; omega)
    generalize par (tgh a) A 7 = PA at *
    refine row_of Tryd.func32 rfl rfl (Nat.le_of_ble_eq_true rfl) ?_
    repeat' (first | refine aw_seq ?_ | refine aw_skip ?_ | refine aw_block ?_ | refine aw_exit ?_ | refine aw_cond rfl (fun _ => ?_) (fun hb => absurd hb (by decide)) | refine aw_cond rfl (fun hb => absurd hb (by decide)) (fun _ => ?_) | (refine aw_reg (fun K hK => ?_); simp -implicitDefEqProofs [h]) | (refine aw_drw mixd (fun K hK => ?_); simp -implicitDefEqProofs [h]) | refine hK _ ?_ | refine hK _ _ (by rfl) ?_ | (refine ar_call (cp q0 ?_); simp -implicitDefEqProofs [h]) | (refine ard_call (dp q0 ?_); simp -implicitDefEqProofs [h]) | (refine ar_call (cgw p1 0 2 rfl ?_); simp -implicitDefEqProofs [h]) | (refine ard_call (dgw p1 0 2 rfl ?_); simp -implicitDefEqProofs [h]) | (refine ar_call (cgw p2 0 2 rfl ?_); simp -implicitDefEqProofs [h]) | (refine ard_call (dgw p2 0 2 rfl ?_); simp -implicitDefEqProofs [h]) | (refine ar_call (cgw p3 0 2 rfl ?_); simp -implicitDefEqProofs [h]) | (refine ard_call (dgw p3 0 2 rfl ?_); simp -implicitDefEqProofs [h]) | fail)
    refine fin_fall (fin_gw rfl ?_); simp -implicitDefEqProofs [FinG, resV, resT] <;> try rfl
  | lst x l Ws h hl hw ih =>
    intro L hL
    have k := ws_kids hl (fun i t W a b => we_ne (hw i t W a b)) [sCom]
    have e : [sOpen] ++ (pre [sCom] Ws ++ [sShut]) = (brW x).1 ++ (pre [sCom] Ws ++ [(brW x).2]) := by unfold brW; rw [if_pos h]
    rw [e] at hL ⊢
    have p := brack_row LL x l Ws (.inl h) hl (by simp only [List.length_append] at hL; omega) ih L hL
    generalize (brW x).1 ++ (pre [sCom] Ws ++ [(brW x).2]) = R at *
    refine row_of Tryd.func32 rfl rfl (Nat.le_of_ble_eq_true rfl) ?_
    repeat' (first | refine aw_seq ?_ | refine aw_skip ?_ | refine aw_block ?_ | refine aw_exit ?_ | refine aw_cond rfl (fun _ => ?_) (fun hb => absurd hb (by decide)) | refine aw_cond rfl (fun hb => absurd hb (by decide)) (fun _ => ?_) | (refine aw_reg (fun K hK => ?_); simp -implicitDefEqProofs [h]) | (refine aw_drw mixd (fun K hK => ?_); simp -implicitDefEqProofs [h]) | refine hK _ ?_ | refine hK _ _ (by rfl) ?_ | (refine ar_call (cgw p 0 2 rfl ?_); simp -implicitDefEqProofs [h]) | (refine ard_call (dgw p 0 2 rfl ?_); simp -implicitDefEqProofs [h]) | fail)
    refine fin_fall (fin_gw rfl ?_); simp -implicitDefEqProofs [FinG, resV, resT] <;> try rfl
  | mak x l Ws h hs hl hw ih =>
    intro L hL
    have k := ws_kids hl (fun i t W a b => we_ne (hw i t W a b)) [sCom]
    have e : [wNew] ++ ([x.s] ++ ([sParO] ++ (pre [sCom] Ws ++ [sParS]))) = (brW x).1 ++ (pre [sCom] Ws ++ [(brW x).2]) := by unfold brW; rw [if_neg (by omega), if_pos h]; simp
    rw [e] at hL ⊢
    have p := brack_row LL x l Ws (.inr (.inl h)) hl (by simp only [List.length_append] at hL; omega) ih L hL
    generalize (brW x).1 ++ (pre [sCom] Ws ++ [(brW x).2]) = R at *
    refine row_of Tryd.func32 rfl rfl (Nat.le_of_ble_eq_true rfl) ?_
    repeat' (first | refine aw_seq ?_ | refine aw_skip ?_ | refine aw_block ?_ | refine aw_exit ?_ | refine aw_cond rfl (fun _ => ?_) (fun hb => absurd hb (by decide)) | refine aw_cond rfl (fun hb => absurd hb (by decide)) (fun _ => ?_) | (refine aw_reg (fun K hK => ?_); simp -implicitDefEqProofs [h]) | (refine aw_drw mixd (fun K hK => ?_); simp -implicitDefEqProofs [h]) | refine hK _ ?_ | refine hK _ _ (by rfl) ?_ | (refine ar_call (cgw p 0 2 rfl ?_); simp -implicitDefEqProofs [h]) | (refine ard_call (dgw p 0 2 rfl ?_); simp -implicitDefEqProofs [h]) | fail)
    refine fin_fall (fin_gw rfl ?_); simp -implicitDefEqProofs [FinG, resV, resT] <;> try rfl
  | cal x l Ws h hs hl hw ih =>
    intro L hL
    have k := ws_kids hl (fun i t W a b => we_ne (hw i t W a b)) [sCom]
    have e : [x.s] ++ ([sParO] ++ (pre [sCom] Ws ++ [sParS])) = (brW x).1 ++ (pre [sCom] Ws ++ [(brW x).2]) := by unfold brW; rw [if_neg (by omega), if_neg (by omega), if_pos h]; simp
    rw [e] at hL ⊢
    have p := brack_row LL x l Ws (.inr (.inr (.inl h))) hl (by simp only [List.length_append] at hL; omega) ih L hL
    generalize (brW x).1 ++ (pre [sCom] Ws ++ [(brW x).2]) = R at *
    refine row_of Tryd.func32 rfl rfl (Nat.le_of_ble_eq_true rfl) ?_
    repeat' (first | refine aw_seq ?_ | refine aw_skip ?_ | refine aw_block ?_ | refine aw_exit ?_ | refine aw_cond rfl (fun _ => ?_) (fun hb => absurd hb (by decide)) | refine aw_cond rfl (fun hb => absurd hb (by decide)) (fun _ => ?_) | (refine aw_reg (fun K hK => ?_); simp -implicitDefEqProofs [h]) | (refine aw_drw mixd (fun K hK => ?_); simp -implicitDefEqProofs [h]) | refine hK _ ?_ | refine hK _ _ (by rfl) ?_ | (refine ar_call (cgw p 0 2 rfl ?_); simp -implicitDefEqProofs [h]) | (refine ard_call (dgw p 0 2 rfl ?_); simp -implicitDefEqProofs [h]) | fail)
    refine fin_fall (fin_gw rfl ?_); simp -implicitDefEqProofs [FinG, resV, resT] <;> try rfl
  | ext x l Ws h hs hl hw ih =>
    intro L hL
    have k := ws_kids hl (fun i t W a b => we_ne (hw i t W a b)) [sCom]
    have e : [sAt] ++ ([x.s] ++ ([sParO] ++ (pre [sCom] Ws ++ [sParS]))) = (brW x).1 ++ (pre [sCom] Ws ++ [(brW x).2]) := by unfold brW; rw [if_neg (by omega), if_neg (by omega), if_neg (by omega)]; simp
    rw [e] at hL ⊢
    have p := brack_row LL x l Ws (.inr (.inr (.inr h))) hl (by simp only [List.length_append] at hL; omega) ih L hL
    generalize (brW x).1 ++ (pre [sCom] Ws ++ [(brW x).2]) = R at *
    refine row_of Tryd.func32 rfl rfl (Nat.le_of_ble_eq_true rfl) ?_
    repeat' (first | refine aw_seq ?_ | refine aw_skip ?_ | refine aw_block ?_ | refine aw_exit ?_ | refine aw_cond rfl (fun _ => ?_) (fun hb => absurd hb (by decide)) | refine aw_cond rfl (fun hb => absurd hb (by decide)) (fun _ => ?_) | (refine aw_reg (fun K hK => ?_); simp -implicitDefEqProofs [h]) | (refine aw_drw mixd (fun K hK => ?_); simp -implicitDefEqProofs [h]) | refine hK _ ?_ | refine hK _ _ (by rfl) ?_ | (refine ar_call (cgw p 0 2 rfl ?_); simp -implicitDefEqProofs [h]) | (refine ard_call (dgw p 0 2 rfl ?_); simp -implicitDefEqProofs [h]) | fail)
    refine fin_fall (fin_gw rfl ?_); simp -implicitDefEqProofs [FinG, resV, resT] <;> try rfl
end Go.Proofs.YtlkggpjdaaglmaaDoor.am
end
section
namespace Go.Proofs.YtlkggpjdaaglmaaDoor.am
open Go.ChangeShapes Go.WideShapes Go.ChangeAt Go.RowKit
open vt
set_option linter.unusedVariables false
set_option linter.unusedSimpArgs false
theorem par_ne {b : Int} {A : List ByteArray} {n : Int} (h : A ≠ []) : par b A n ≠ [] := by unfold par; split <;> simp [h]
theorem par_sml {b : Int} {A : List ByteArray} {n : Int} (h : Sml (par b A n)) : Sml A := by
  unfold par at h
  split at h
  · exact h
  · exact (sml_app.1 (sml_app.1 h).1).2
theorem pre_mem (S : List ByteArray) {Ws : List (List ByteArray)} {W : List ByteArray} (h : W ∈ Ws) : ∃ X Y, pre S Ws = X ++ (W ++ Y) := by
  cases Ws with
  | nil => cases h
  | cons a r =>
    unfold pre
    rcases List.mem_cons.1 h with rfl | h
    · exact ⟨[], _, rfl⟩
    · obtain ⟨s, t, rfl⟩ := List.append_of_mem h
      exact ⟨a ++ ((s.map (S ++ ·)).flatten ++ S), ((t.map (S ++ ·)).flatten), by simp⟩
theorem brk_parts {fi : List ByteArray} {la : ByteArray} {Ws : List (List ByteArray)} (hs : Sml (fi ++ (pre [sCom] Ws ++ [la]))) (hl : (fi ++ (pre [sCom] Ws ++ [la])).length ≤ 90000) : ∀ W ∈ Ws, W.length ≤ 90000 ∧ Sml W := fun W hW => by
  obtain ⟨X, Y, h⟩ := pre_mem [sCom] hW
  have h1 := (sml_app.1 (sml_app.1 hs).2).1
  rw [h] at h1
  simp only [List.length_append] at hl
  have h2 := congrArg List.length h
  simp only [List.length_append] at h2
  exact ⟨by omega, (sml_app.1 (sml_app.1 h1).2).1⟩
set_option maxRecDepth 100000 in
set_option maxHeartbeats 4000000 in
theorem rexp_row {t : VT} {W : List ByteArray} (hW : WE t W) : W.length ≤ 90000 → Sml W → Row Tryd.prog 15 [vT t] [] (vS (J W)) [] := by
  have zs : sp.size = 1 := rfl
  induction hW with
  | num x h h0 h1 =>
    intro hl hs
    have d := rdigit_row x.n h0 h1
    rw [J_one]
    generalize wNum x.n = D at *
    refine row_of Tryd.func15 rfl rfl (Nat.le_of_ble_eq_true rfl) ?_
    repeat' (first | refine aw_seq ?_ | refine aw_skip ?_ | refine aw_block ?_ | refine aw_exit ?_ | refine aw_cond rfl (fun _ => ?_) (fun hb => absurd hb (by decide)) | refine aw_cond rfl (fun hb => absurd hb (by decide)) (fun _ => ?_) | (refine aw_reg (fun K hK => ?_); simp -implicitDefEqProofs [h]) | (refine aw_drw mixd (fun K hK => ?_); simp -implicitDefEqProofs [h]) | refine hK _ ?_ | refine hK _ _ (by rfl) ?_ | (refine ar_call (cp d ?_); simp -implicitDefEqProofs [h]) | (refine ard_call (dp d ?_); simp -implicitDefEqProofs [h]) | fail)
    refine aw_ret (fin_ret ?_); simp -implicitDefEqProofs [FinP, resV, resT] <;> try rfl
  | tru x h hn =>
    intro hl hs
    rw [J_one]
    refine row_of Tryd.func15 rfl rfl (Nat.le_of_ble_eq_true rfl) ?_
    repeat (first | refine aw_seq ?_ | refine aw_skip ?_ | refine aw_block ?_ | refine aw_exit ?_ | refine aw_cond rfl (fun _ => ?_) (fun hb => absurd hb (by decide)) | refine aw_cond rfl (fun hb => absurd hb (by decide)) (fun _ => ?_) | (refine aw_reg (fun K hK => ?_); simp -implicitDefEqProofs [h, hn]; refine hK _ ?_) | (refine aw_drw mixd (fun K hK => ?_); simp -implicitDefEqProofs [h, hn]; refine hK _ _ (by rfl) ?_) | fail)
    refine aw_ret (fin_ret ?_); simp -implicitDefEqProofs [FinP, resV, resT] <;> try rfl
  | fls x h hn =>
    intro hl hs
    rw [J_one]
    refine row_of Tryd.func15 rfl rfl (Nat.le_of_ble_eq_true rfl) ?_
    repeat (first | refine aw_seq ?_ | refine aw_skip ?_ | refine aw_block ?_ | refine aw_exit ?_ | refine aw_cond rfl (fun _ => ?_) (fun hb => absurd hb (by decide)) | refine aw_cond rfl (fun hb => absurd hb (by decide)) (fun _ => ?_) | (refine aw_reg (fun K hK => ?_); simp -implicitDefEqProofs [h, hn]; refine hK _ ?_) | (refine aw_drw mixd (fun K hK => ?_); simp -implicitDefEqProofs [h, hn]; refine hK _ _ (by rfl) ?_) | fail)
    refine aw_ret (fin_ret ?_); simp -implicitDefEqProofs [FinP, resV, resT] <;> try rfl
  | read x h =>
    intro hl hs
    rw [J_one]
    refine row_of Tryd.func15 rfl rfl (Nat.le_of_ble_eq_true rfl) ?_
    repeat (first | refine aw_seq ?_ | refine aw_skip ?_ | refine aw_block ?_ | refine aw_exit ?_ | refine aw_cond rfl (fun _ => ?_) (fun hb => absurd hb (by decide)) | refine aw_cond rfl (fun hb => absurd hb (by decide)) (fun _ => ?_) | (refine aw_reg (fun K hK => ?_); simp -implicitDefEqProofs [h]; refine hK _ ?_) | (refine aw_drw mixd (fun K hK => ?_); simp -implicitDefEqProofs [h]; refine hK _ _ (by rfl) ?_) | fail)
    refine aw_ret (fin_ret ?_); simp -implicitDefEqProofs [FinP, resV, resT] <;> try rfl
  | nam x h hsz =>
    intro hl hs
    rw [J_one]
    refine row_of Tryd.func15 rfl rfl (Nat.le_of_ble_eq_true rfl) ?_
    repeat (first | refine aw_seq ?_ | refine aw_skip ?_ | refine aw_block ?_ | refine aw_exit ?_ | refine aw_cond rfl (fun _ => ?_) (fun hb => absurd hb (by decide)) | refine aw_cond rfl (fun hb => absurd hb (by decide)) (fun _ => ?_) | (refine aw_reg (fun K hK => ?_); simp -implicitDefEqProofs [h]; refine hK _ ?_) | (refine aw_drw mixd (fun K hK => ?_); simp -implicitDefEqProofs [h]; refine hK _ _ (by rfl) ?_) | fail)
    refine aw_ret (fin_ret ?_); simp -implicitDefEqProofs [FinP, resV, resT] <;> try rfl
  | bin x a c al cl A C h h1 h2 ha hc ia ic =>
    intro hl hs
    have hb := opB_rng x.n h1 h2
    have sg := rsign_row x.n h1 h2
    have bi := rbinds_row x [.mk a al, .mk c cl] (fun _ => ⟨h1, h2⟩)
    have tb : tgh x = (opB x.n).2 := by unfold tgh; rw [if_pos h]
    rw [tb] at bi
    have s1 := (sml_app.1 hs).1
    have s2 := (sml_app.1 (sml_app.1 hs).2).1
    have s3 := (sml_app.1 (sml_app.1 hs).2).2
    simp only [List.length_append, List.length_singleton] at hl
    have pa := @par_le (tgh a) A (if (opB x.n).2 = 3 then 4 else (opB x.n).2)
    have pc := @par_le (tgh c) C ((opB x.n).2 + 1)
    have r1 := round_row a al A (we_opd ha) (we_ne ha) (if (opB x.n).2 = 3 then 4 else (opB x.n).2) (par_sml s1) (by omega) (ia (by omega) (par_sml s1))
    have r2 := round_row c cl C (we_opd hc) (we_ne hc) ((opB x.n).2 + 1) (par_sml s3) (by omega) (ic (by omega) (par_sml s3))
    have z1 := J_sml s1 (by omega)
    have z3 := J_sml s3 (by omega)
    have z2 := s2 _ (.head _)
    rw [J_app (par_ne (we_ne ha)) (by simp), J_app (by simp) (par_ne (we_ne hc)), J_one]
    rw [show J (par (tgh a) A (if (opB x.n).2 = 3 then 4 else (opB x.n).2)) ++ sp ++ ((opB x.n).1 ++ sp ++ J (par (tgh c) C ((opB x.n).2 + 1))) = J (par (tgh a) A (if (opB x.n).2 = 3 then 4 else (opB x.n).2)) ++ sp ++ (opB x.n).1 ++ sp ++ J (par (tgh c) C ((opB x.n).2 + 1)) by simp only [ByteArray.append_assoc]]
    clear hs s1 s2 s3 pa pc ia ic
    generalize J (par (tgh a) A (if (opB x.n).2 = 3 then 4 else (opB x.n).2)) = D1 at *
    generalize J (par (tgh c) C ((opB x.n).2 + 1)) = D2 at *
    generalize opB x.n = r at sg bi hb r1 r2 z2 ⊢
    obtain ⟨sgn, b⟩ := r
    dsimp only at sg bi hb r1 r2 z2 ⊢
    have w1 : IntKind.i64.wrap (b + 1) = b + 1 := i64i _ (by omega) (by omega)
    have b1 : D1.size + sp.size ≤ 9223372036854775807 := by omega
    have b2 : D1.size + sp.size + sgn.size ≤ 9223372036854775807 := by omega
    have b3 : D1.size + sp.size + sgn.size + sp.size ≤ 9223372036854775807 := by omega
    have b4 : D1.size + sp.size + sgn.size + sp.size + D2.size ≤ 9223372036854775807 := by omega
    by_cases h3 : b = 3
    · subst h3
      rw [if_pos rfl] at r1
      refine row_of Tryd.func15 rfl rfl (Nat.le_of_ble_eq_true rfl) ?_
      repeat' (first | refine aw_seq ?_ | refine aw_skip ?_ | refine aw_block ?_ | refine aw_exit ?_ | refine aw_cond rfl (fun _ => ?_) (fun hb => absurd hb (by decide)) | refine aw_cond rfl (fun hb => absurd hb (by decide)) (fun _ => ?_) | (refine aw_reg (fun K hK => ?_); simp -implicitDefEqProofs [h, i64i, b1, b2, b3, b4]) | (refine aw_drw mixd (fun K hK => ?_); simp -implicitDefEqProofs [h, i64i, b1, b2, b3, b4]) | refine hK _ ?_ | refine hK _ _ (by rfl) ?_ | (refine ar_call (cp bi ?_); simp -implicitDefEqProofs [h, i64i, b1, b2, b3, b4]) | (refine ard_call (dp bi ?_); simp -implicitDefEqProofs [h, i64i, b1, b2, b3, b4]) | (refine ar_call (cp r1 ?_); simp -implicitDefEqProofs [h, i64i, b1, b2, b3, b4]) | (refine ard_call (dp r1 ?_); simp -implicitDefEqProofs [h, i64i, b1, b2, b3, b4]) | (refine ar_call (cp sg ?_); simp -implicitDefEqProofs [h, i64i, b1, b2, b3, b4]) | (refine ard_call (dp sg ?_); simp -implicitDefEqProofs [h, i64i, b1, b2, b3, b4]) | (refine ar_call (cp r2 ?_); simp -implicitDefEqProofs [h, i64i, b1, b2, b3, b4]) | (refine ard_call (dp r2 ?_); simp -implicitDefEqProofs [h, i64i, b1, b2, b3, b4]) | fail)
      refine aw_ret (fin_ret ?_); simp -implicitDefEqProofs [FinP, resV, resT] <;> try rfl
    · rw [if_neg h3] at r1
      refine row_of Tryd.func15 rfl rfl (Nat.le_of_ble_eq_true rfl) ?_
      repeat' (first | refine aw_seq ?_ | refine aw_skip ?_ | refine aw_block ?_ | refine aw_exit ?_ | refine aw_cond rfl (fun _ => ?_) (fun hb => absurd hb (by decide)) | refine aw_cond rfl (fun hb => absurd hb (by decide)) (fun _ => ?_) | (refine aw_reg (fun K hK => ?_); simp -implicitDefEqProofs [h, h3, w1, b1, b2, b3, b4]) | (refine aw_drw mixd (fun K hK => ?_); simp -implicitDefEqProofs [h, h3, w1, b1, b2, b3, b4]) | refine hK _ ?_ | refine hK _ _ (by rfl) ?_ | (refine ar_call (cp bi ?_); simp -implicitDefEqProofs [h, h3, w1, b1, b2, b3, b4]) | (refine ard_call (dp bi ?_); simp -implicitDefEqProofs [h, h3, w1, b1, b2, b3, b4]) | (refine ar_call (cp r1 ?_); simp -implicitDefEqProofs [h, h3, w1, b1, b2, b3, b4]) | (refine ard_call (dp r1 ?_); simp -implicitDefEqProofs [h, h3, w1, b1, b2, b3, b4]) | (refine ar_call (cp sg ?_); simp -implicitDefEqProofs [h, h3, w1, b1, b2, b3, b4]) | (refine ard_call (dp sg ?_); simp -implicitDefEqProofs [h, h3, w1, b1, b2, b3, b4]) | (refine ar_call (cp r2 ?_); simp -implicitDefEqProofs [h, h3, w1, b1, b2, b3, b4]) | (refine ard_call (dp r2 ?_); simp -implicitDefEqProofs [h, h3, w1, b1, b2, b3, b4]) | fail)
      refine aw_ret (fin_ret ?_); simp -implicitDefEqProofs [FinP, resV, resT] <;> try rfl
  | neg x a al A h hn ha ia =>
    intro hl hs
    have s3 := (sml_app.1 hs).2
    simp only [List.length_append, List.length_singleton] at hl
    have pa := @par_le (tgh a) A 6
    have r1 := round_row a al A (we_opd ha) (we_ne ha) 6 (par_sml s3) (by omega) (ia (by omega) (par_sml s3))
    have z1 := J_sml s3 (by omega)
    have q : J ([sMin] ++ par (tgh a) A 6) = ⟨#[45, 32]⟩ ++ J (par (tgh a) A 6) := by
      rw [J_app (by simp) (par_ne (we_ne ha)), J_one]
      simp only [ByteArray.append_assoc, app_lit, app_lit2, List.cons_append, List.nil_append]
    rw [q]
    clear hs s3 pa ia q
    generalize J (par (tgh a) A 6) = D1 at *
    have zc : (⟨#[45, 32]⟩ : ByteArray).size = 2 := rfl
    have b1 : (⟨#[45, 32]⟩ : ByteArray).size + D1.size ≤ 9223372036854775807 := by omega
    refine row_of Tryd.func15 rfl rfl (Nat.le_of_ble_eq_true rfl) ?_
    repeat' (first | refine aw_seq ?_ | refine aw_skip ?_ | refine aw_block ?_ | refine aw_exit ?_ | refine aw_cond rfl (fun _ => ?_) (fun hb => absurd hb (by decide)) | refine aw_cond rfl (fun hb => absurd hb (by decide)) (fun _ => ?_) | (refine aw_reg (fun K hK => ?_); simp -implicitDefEqProofs [h, hn, b1]) | (refine aw_drw mixd (fun K hK => ?_); simp -implicitDefEqProofs [h, hn, b1]) | refine hK _ ?_ | refine hK _ _ (by rfl) ?_ | (refine ar_call (cp r1 ?_); simp -implicitDefEqProofs [h, hn, b1]) | (refine ard_call (dp r1 ?_); simp -implicitDefEqProofs [h, hn, b1]) | fail)
    refine aw_ret (fin_ret ?_); simp -implicitDefEqProofs [FinP, resV, resT] <;> try rfl
  | nt x a al A h hn ha ia =>
    intro hl hs
    have s3 := (sml_app.1 hs).2
    simp only [List.length_append, List.length_singleton] at hl
    have pa := @par_le (tgh a) A 6
    have r1 := round_row a al A (we_opd ha) (we_ne ha) 6 (par_sml s3) (by omega) (ia (by omega) (par_sml s3))
    have z1 := J_sml s3 (by omega)
    have q : J ([sNot] ++ par (tgh a) A 6) = ⟨#[33, 32]⟩ ++ J (par (tgh a) A 6) := by
      rw [J_app (by simp) (par_ne (we_ne ha)), J_one]
      simp only [ByteArray.append_assoc, app_lit, app_lit2, List.cons_append, List.nil_append]
    rw [q]
    clear hs s3 pa ia q
    generalize J (par (tgh a) A 6) = D1 at *
    have zc : (⟨#[33, 32]⟩ : ByteArray).size = 2 := rfl
    have b1 : (⟨#[33, 32]⟩ : ByteArray).size + D1.size ≤ 9223372036854775807 := by omega
    refine row_of Tryd.func15 rfl rfl (Nat.le_of_ble_eq_true rfl) ?_
    repeat' (first | refine aw_seq ?_ | refine aw_skip ?_ | refine aw_block ?_ | refine aw_exit ?_ | refine aw_cond rfl (fun _ => ?_) (fun hb => absurd hb (by decide)) | refine aw_cond rfl (fun hb => absurd hb (by decide)) (fun _ => ?_) | (refine aw_reg (fun K hK => ?_); simp -implicitDefEqProofs [h, hn, b1]) | (refine aw_drw mixd (fun K hK => ?_); simp -implicitDefEqProofs [h, hn, b1]) | refine hK _ ?_ | refine hK _ _ (by rfl) ?_ | (refine ar_call (cp r1 ?_); simp -implicitDefEqProofs [h, hn, b1]) | (refine ard_call (dp r1 ?_); simp -implicitDefEqProofs [h, hn, b1]) | fail)
    refine aw_ret (fin_ret ?_); simp -implicitDefEqProofs [FinP, resV, resT] <;> try rfl
  | idx x a c al cl A C h ha hc ia ic =>
    intro hl hs
    have s1 := (sml_app.1 hs).1
    have s3 := (sml_app.1 (sml_app.1 (sml_app.1 hs).2).2).1
    simp only [List.length_append, List.length_singleton] at hl
    have pa := @par_le (tgh a) A 7
    have r1 := round_row a al A (we_opd ha) (we_ne ha) 7 (par_sml s1) (by omega) (ia (by omega) (par_sml s1))
    have r2 := ic (by omega) s3
    have z1 := J_sml s1 (by omega)
    have z3 := J_sml s3 (by omega)
    have q : J (par (tgh a) A 7 ++ ([sOpen] ++ (C ++ [sShut]))) = J (par (tgh a) A 7) ++ ⟨#[32, 91, 32]⟩ ++ J C ++ ⟨#[32, 93]⟩ := by
      rw [J_app (par_ne (we_ne ha)) (by simp), J_app (by simp) (by simp), J_app (we_ne hc) (by simp), J_one, J_one]
      simp only [ByteArray.append_assoc, app_lit, app_lit2, List.cons_append, List.nil_append]
    rw [q]
    clear hs s1 s3 pa ia ic q
    generalize J (par (tgh a) A 7) = D1 at *
    generalize J C = D2 at *
    have zc : (⟨#[32, 91, 32]⟩ : ByteArray).size = 3 := rfl
    have zd : (⟨#[32, 93]⟩ : ByteArray).size = 2 := rfl
    have b1 : D1.size + (⟨#[32, 91, 32]⟩ : ByteArray).size ≤ 9223372036854775807 := by omega
    have b2 : D1.size + (⟨#[32, 91, 32]⟩ : ByteArray).size + D2.size ≤ 9223372036854775807 := by omega
    have b3 : D1.size + (⟨#[32, 91, 32]⟩ : ByteArray).size + D2.size + (⟨#[32, 93]⟩ : ByteArray).size ≤ 9223372036854775807 := by omega
    refine row_of Tryd.func15 rfl rfl (Nat.le_of_ble_eq_true rfl) ?_
    repeat' (first | refine aw_seq ?_ | refine aw_skip ?_ | refine aw_block ?_ | refine aw_exit ?_ | refine aw_cond rfl (fun _ => ?_) (fun hb => absurd hb (by decide)) | refine aw_cond rfl (fun hb => absurd hb (by decide)) (fun _ => ?_) | (refine aw_reg (fun K hK => ?_); simp -implicitDefEqProofs [h, b1, b2, b3]) | (refine aw_drw mixd (fun K hK => ?_); simp -implicitDefEqProofs [h, b1, b2, b3]) | refine hK _ ?_ | refine hK _ _ (by rfl) ?_ | (refine ar_call (cp r1 ?_); simp -implicitDefEqProofs [h, b1, b2, b3]) | (refine ard_call (dp r1 ?_); simp -implicitDefEqProofs [h, b1, b2, b3]) | (refine ar_call (cp r2 ?_); simp -implicitDefEqProofs [h, b1, b2, b3]) | (refine ard_call (dp r2 ?_); simp -implicitDefEqProofs [h, b1, b2, b3]) | fail)
    refine aw_ret (fin_ret ?_); simp -implicitDefEqProofs [FinP, resV, resT] <;> try rfl
  | fld x a al A h hsz ha ia =>
    intro hl hs
    have s1 := (sml_app.1 hs).1
    simp only [List.length_append, List.length_singleton] at hl
    have pa := @par_le (tgh a) A 7
    have r1 := round_row a al A (we_opd ha) (we_ne ha) 7 (par_sml s1) (by omega) (ia (by omega) (par_sml s1))
    have z1 := J_sml s1 (by omega)
    have q : J (par (tgh a) A 7 ++ ([sDot] ++ [x.s])) = J (par (tgh a) A 7) ++ ⟨#[32, 46, 32]⟩ ++ x.s := by
      rw [J_app (par_ne (we_ne ha)) (by simp), J_app (by simp) (by simp), J_one, J_one]
      simp only [ByteArray.append_assoc, app_lit, app_lit2, List.cons_append, List.nil_append]
    rw [q]
    clear hs s1 pa ia q
    generalize J (par (tgh a) A 7) = D1 at *
    have zc : (⟨#[32, 46, 32]⟩ : ByteArray).size = 3 := rfl
    have b1 : D1.size + (⟨#[32, 46, 32]⟩ : ByteArray).size ≤ 9223372036854775807 := by omega
    have b2 : D1.size + (⟨#[32, 46, 32]⟩ : ByteArray).size + x.s.size ≤ 9223372036854775807 := by omega
    refine row_of Tryd.func15 rfl rfl (Nat.le_of_ble_eq_true rfl) ?_
    repeat' (first | refine aw_seq ?_ | refine aw_skip ?_ | refine aw_block ?_ | refine aw_exit ?_ | refine aw_cond rfl (fun _ => ?_) (fun hb => absurd hb (by decide)) | refine aw_cond rfl (fun hb => absurd hb (by decide)) (fun _ => ?_) | (refine aw_reg (fun K hK => ?_); simp -implicitDefEqProofs [h, b1, b2]) | (refine aw_drw mixd (fun K hK => ?_); simp -implicitDefEqProofs [h, b1, b2]) | refine hK _ ?_ | refine hK _ _ (by rfl) ?_ | (refine ar_call (cp r1 ?_); simp -implicitDefEqProofs [h, b1, b2]) | (refine ard_call (dp r1 ?_); simp -implicitDefEqProofs [h, b1, b2]) | fail)
    refine aw_ret (fin_ret ?_); simp -implicitDefEqProofs [FinP, resV, resT] <;> try rfl
  | lst x l Ws h hl hw ih =>
    intro hlen hs
    have k := ws_kids hl (fun i t W a b => we_ne (hw i t W a b)) [sCom]
    have pt := brk_parts hs hlen
    simp only [List.length_append, List.length_singleton] at hlen
    have r := rlist_row sOpen sShut l Ws hl (by omega) (by decide) (by decide) (fun W hW => by
      obtain ⟨i, hi⟩ := List.mem_iff_getElem?.1 hW
      have hlt := (List.getElem?_eq_some_iff.1 hi).1
      exact we_ne (hw i _ W (List.getElem?_eq_getElem (by omega)) hi)) (sml_app.1 (sml_app.1 hs).2).1 (by omega) (fun i t W a b => ih i t W a b (pt W (List.mem_of_getElem? b)).1 (pt W (List.mem_of_getElem? b)).2)
    generalize J ([sOpen] ++ (pre [sCom] Ws ++ [sShut])) = D1 at *
    refine row_of Tryd.func15 rfl rfl (Nat.le_of_ble_eq_true rfl) ?_
    repeat' (first | refine aw_seq ?_ | refine aw_skip ?_ | refine aw_block ?_ | refine aw_exit ?_ | refine aw_cond rfl (fun _ => ?_) (fun hb => absurd hb (by decide)) | refine aw_cond rfl (fun hb => absurd hb (by decide)) (fun _ => ?_) | (refine aw_reg (fun K hK => ?_); simp -implicitDefEqProofs [h]) | (refine aw_drw mixd (fun K hK => ?_); simp -implicitDefEqProofs [h]) | refine hK _ ?_ | refine hK _ _ (by rfl) ?_ | (refine ar_call (cp r ?_); simp -implicitDefEqProofs [h]) | (refine ard_call (dp r ?_); simp -implicitDefEqProofs [h]) | fail)
    refine aw_ret (fin_ret ?_); simp -implicitDefEqProofs [FinP, resV, resT] <;> try rfl
  | mak x l Ws h hsz hl hw ih =>
    intro hlen hs
    have k := ws_kids hl (fun i t W a b => we_ne (hw i t W a b)) [sCom]
    have s3 := (sml_app.1 (sml_app.1 hs).2).2
    simp only [List.length_append, List.length_singleton] at hlen
    have pt := brk_parts s3 (by simp only [List.length_append, List.length_singleton]; omega)
    have z1 := J_sml s3 (by simp only [List.length_append, List.length_singleton]; omega)
    have r := rlist_row sParO sParS l Ws hl (by omega) (by decide) (by decide) (fun W hW => by
      obtain ⟨i, hi⟩ := List.mem_iff_getElem?.1 hW
      have hlt := (List.getElem?_eq_some_iff.1 hi).1
      exact we_ne (hw i _ W (List.getElem?_eq_getElem (by omega)) hi)) (sml_app.1 (sml_app.1 s3).2).1 (by omega) (fun i t W a b => ih i t W a b (pt W (List.mem_of_getElem? b)).1 (pt W (List.mem_of_getElem? b)).2)
    have q : J ([wNew] ++ ([x.s] ++ ([sParO] ++ (pre [sCom] Ws ++ [sParS])))) = ⟨#[110, 101, 119, 32]⟩ ++ x.s ++ sp ++ J ([sParO] ++ (pre [sCom] Ws ++ [sParS])) := by
      rw [J_app (A := [wNew]) (by simp) (by simp), J_app (A := [x.s]) (by simp) (by simp), J_one, J_one]
      simp only [ByteArray.append_assoc, app_lit, app_lit2, List.cons_append, List.nil_append]
    rw [q]
    clear hs s3 ih pt q
    generalize J ([sParO] ++ (pre [sCom] Ws ++ [sParS])) = D1 at *
    have zc : (⟨#[110, 101, 119, 32]⟩ : ByteArray).size = 4 := rfl
    have b1 : (⟨#[110, 101, 119, 32]⟩ : ByteArray).size + x.s.size ≤ 9223372036854775807 := by omega
    have b2 : (⟨#[110, 101, 119, 32]⟩ : ByteArray).size + x.s.size + sp.size ≤ 9223372036854775807 := by omega
    have b3 : (⟨#[110, 101, 119, 32]⟩ : ByteArray).size + x.s.size + sp.size + D1.size ≤ 9223372036854775807 := by omega
    refine row_of Tryd.func15 rfl rfl (Nat.le_of_ble_eq_true rfl) ?_
    repeat' (first | refine aw_seq ?_ | refine aw_skip ?_ | refine aw_block ?_ | refine aw_exit ?_ | refine aw_cond rfl (fun _ => ?_) (fun hb => absurd hb (by decide)) | refine aw_cond rfl (fun hb => absurd hb (by decide)) (fun _ => ?_) | (refine aw_reg (fun K hK => ?_); simp -implicitDefEqProofs [h, b1, b2, b3]) | (refine aw_drw mixd (fun K hK => ?_); simp -implicitDefEqProofs [h, b1, b2, b3]) | refine hK _ ?_ | refine hK _ _ (by rfl) ?_ | (refine ar_call (cp r ?_); simp -implicitDefEqProofs [h, b1, b2, b3]) | (refine ard_call (dp r ?_); simp -implicitDefEqProofs [h, b1, b2, b3]) | fail)
    refine aw_ret (fin_ret ?_); simp -implicitDefEqProofs [FinP, resV, resT] <;> try rfl
  | cal x l Ws h hsz hl hw ih =>
    intro hlen hs
    have k := ws_kids hl (fun i t W a b => we_ne (hw i t W a b)) [sCom]
    have s3 := (sml_app.1 hs).2
    simp only [List.length_append, List.length_singleton] at hlen
    have pt := brk_parts s3 (by simp only [List.length_append, List.length_singleton]; omega)
    have z1 := J_sml s3 (by simp only [List.length_append, List.length_singleton]; omega)
    have r := rlist_row sParO sParS l Ws hl (by omega) (by decide) (by decide) (fun W hW => by
      obtain ⟨i, hi⟩ := List.mem_iff_getElem?.1 hW
      have hlt := (List.getElem?_eq_some_iff.1 hi).1
      exact we_ne (hw i _ W (List.getElem?_eq_getElem (by omega)) hi)) (sml_app.1 (sml_app.1 s3).2).1 (by omega) (fun i t W a b => ih i t W a b (pt W (List.mem_of_getElem? b)).1 (pt W (List.mem_of_getElem? b)).2)
    have q : J ([x.s] ++ ([sParO] ++ (pre [sCom] Ws ++ [sParS]))) = x.s ++ sp ++ J ([sParO] ++ (pre [sCom] Ws ++ [sParS])) := by
      rw [J_app (A := [x.s]) (by simp) (by simp), J_one]
    rw [q]
    clear hs s3 ih pt q
    generalize J ([sParO] ++ (pre [sCom] Ws ++ [sParS])) = D1 at *
    have b2 : x.s.size + sp.size ≤ 9223372036854775807 := by omega
    have b3 : x.s.size + sp.size + D1.size ≤ 9223372036854775807 := by omega
    refine row_of Tryd.func15 rfl rfl (Nat.le_of_ble_eq_true rfl) ?_
    repeat' (first | refine aw_seq ?_ | refine aw_skip ?_ | refine aw_block ?_ | refine aw_exit ?_ | refine aw_cond rfl (fun _ => ?_) (fun hb => absurd hb (by decide)) | refine aw_cond rfl (fun hb => absurd hb (by decide)) (fun _ => ?_) | (refine aw_reg (fun K hK => ?_); simp -implicitDefEqProofs [h, b2, b3]) | (refine aw_drw mixd (fun K hK => ?_); simp -implicitDefEqProofs [h, b2, b3]) | refine hK _ ?_ | refine hK _ _ (by rfl) ?_ | (refine ar_call (cp r ?_); simp -implicitDefEqProofs [h, b2, b3]) | (refine ard_call (dp r ?_); simp -implicitDefEqProofs [h, b2, b3]) | fail)
    refine aw_ret (fin_ret ?_); simp -implicitDefEqProofs [FinP, resV, resT] <;> try rfl
  | ext x l Ws h hsz hl hw ih =>
    intro hlen hs
    have k := ws_kids hl (fun i t W a b => we_ne (hw i t W a b)) [sCom]
    have s3 := (sml_app.1 (sml_app.1 hs).2).2
    simp only [List.length_append, List.length_singleton] at hlen
    have pt := brk_parts s3 (by simp only [List.length_append, List.length_singleton]; omega)
    have z1 := J_sml s3 (by simp only [List.length_append, List.length_singleton]; omega)
    have r := rlist_row sParO sParS l Ws hl (by omega) (by decide) (by decide) (fun W hW => by
      obtain ⟨i, hi⟩ := List.mem_iff_getElem?.1 hW
      have hlt := (List.getElem?_eq_some_iff.1 hi).1
      exact we_ne (hw i _ W (List.getElem?_eq_getElem (by omega)) hi)) (sml_app.1 (sml_app.1 s3).2).1 (by omega) (fun i t W a b => ih i t W a b (pt W (List.mem_of_getElem? b)).1 (pt W (List.mem_of_getElem? b)).2)
    have q : J ([sAt] ++ ([x.s] ++ ([sParO] ++ (pre [sCom] Ws ++ [sParS])))) = ⟨#[64, 32]⟩ ++ x.s ++ sp ++ J ([sParO] ++ (pre [sCom] Ws ++ [sParS])) := by
      rw [J_app (A := [sAt]) (by simp) (by simp), J_app (A := [x.s]) (by simp) (by simp), J_one, J_one]
      simp only [ByteArray.append_assoc, app_lit, app_lit2, List.cons_append, List.nil_append]
    rw [q]
    clear hs s3 ih pt q
    generalize J ([sParO] ++ (pre [sCom] Ws ++ [sParS])) = D1 at *
    have zc : (⟨#[64, 32]⟩ : ByteArray).size = 2 := rfl
    have b1 : (⟨#[64, 32]⟩ : ByteArray).size + x.s.size ≤ 9223372036854775807 := by omega
    have b2 : (⟨#[64, 32]⟩ : ByteArray).size + x.s.size + sp.size ≤ 9223372036854775807 := by omega
    have b3 : (⟨#[64, 32]⟩ : ByteArray).size + x.s.size + sp.size + D1.size ≤ 9223372036854775807 := by omega
    refine row_of Tryd.func15 rfl rfl (Nat.le_of_ble_eq_true rfl) ?_
    repeat' (first | refine aw_seq ?_ | refine aw_skip ?_ | refine aw_block ?_ | refine aw_exit ?_ | refine aw_cond rfl (fun _ => ?_) (fun hb => absurd hb (by decide)) | refine aw_cond rfl (fun hb => absurd hb (by decide)) (fun _ => ?_) | (refine aw_reg (fun K hK => ?_); simp -implicitDefEqProofs [h, b1, b2, b3]) | (refine aw_drw mixd (fun K hK => ?_); simp -implicitDefEqProofs [h, b1, b2, b3]) | refine hK _ ?_ | refine hK _ _ (by rfl) ?_ | (refine ar_call (cp r ?_); simp -implicitDefEqProofs [h, b1, b2, b3]) | (refine ard_call (dp r ?_); simp -implicitDefEqProofs [h, b1, b2, b3]) | fail)
    refine aw_ret (fin_ret ?_); simp -implicitDefEqProofs [FinP, resV, resT] <;> try rfl
end Go.Proofs.YtlkggpjdaaglmaaDoor.am
end
