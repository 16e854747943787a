import Derived.Test.YtlkggpjdaaglmaaDoorPkE12
section
namespace Go.Proofs.YtlkggpjdaaglmaaDoor.am
open Go.ChangeShapes Go.WideShapes Go.ChangeAt Go.RowKit
open vt
set_option linter.unusedVariables false
set_option linter.unusedSimpArgs false
section
variable (ts : List Tok) (hl : ts.length ≤ 1000000000)
include hl
set_option maxRecDepth 100000 in
set_option maxHeartbeats 4000000 in
theorem closed_row (o : Nat) (few : Bool) (fs ls : ByteArray) (hf : quo fs = 4) (hs : quo ls = 4) (ho : o ≤ ts.length) (hE : ∀ j, o < j → j ≤ ts.length → Row Tryd.prog 13 [vKs ts, vI j] [] (vG (Qx ts 1 j)) []) : Row Tryd.prog 100 [vKs ts, vI o, vB few, vS fs, vS ls] [] (vC3 (cloG ts (Qx ts 1) o few fs ls)) [] := by
  have q1 := sign_row ts o fs
  rw [sign_is hf] at q1
  have w1 : IntKind.i64.wrap ((o : Nat) + 1 : Int) = (o : Nat) + 1 := i64i _ (by omega) (by omega)
  have w2 : IntKind.i64.wrap ((o : Nat) + 2 : Int) = (o : Nat) + 2 := i64i _ (by omega) (by omega)
  unfold cloG
  by_cases e1 : isK fs (nxt ts o) = true; rotate_left
  · have e1 : isK fs (nxt ts o) = false := by simpa using e1
    rw [if_pos e1]
    rw [e1] at q1
    clear e1 hE
    refine row_of Tryd.func100 rfl rfl (Nat.le_of_ble_eq_true rfl) ?_
    repeat' (first | refine aw_seq ?_ | refine aw_skip ?_ | refine aw_block ?_ | refine aw_exit ?_ | refine aw_cond rfl (fun _ => ?_) (fun hb => absurd hb (by decide)) | refine aw_cond rfl (fun hb => absurd hb (by decide)) (fun _ => ?_) | (refine aw_reg (fun K hK => ?_); simp -implicitDefEqProofs) | (refine aw_drw mixd (fun K hK => ?_); simp -implicitDefEqProofs) | refine hK _ ?_ | refine hK _ _ (by rfl) ?_ | (refine ar_call (cp q1 ?_); simp -implicitDefEqProofs) | (refine ard_call (dp q1 ?_); simp -implicitDefEqProofs) | fail)
    refine aw_ret (fin_ret ?_); simp -implicitDefEqProofs [FinP, resV, resT] <;> try rfl
  have hlt := isK_lt e1
  rw [if_neg (by simp [e1])]
  rw [e1] at q1
  have q2 := sign_row ts (o + 1) ls
  rw [sign_is hs] at q2
  by_cases e2 : few = true ∧ isK ls (nxt ts (o + 1)) = true
  · rw [if_pos e2]
    obtain ⟨rfl, e2⟩ := e2
    rw [e2] at q2
    clear e1 e2 hE
    refine row_of Tryd.func100 rfl rfl (Nat.le_of_ble_eq_true rfl) ?_
    repeat' (first | refine aw_seq ?_ | refine aw_skip ?_ | refine aw_block ?_ | refine aw_exit ?_ | refine aw_cond rfl (fun _ => ?_) (fun hb => absurd hb (by decide)) | refine aw_cond rfl (fun hb => absurd hb (by decide)) (fun _ => ?_) | (refine aw_reg (fun K hK => ?_); simp -implicitDefEqProofs [w1, w2]) | (refine aw_drw mixd (fun K hK => ?_); simp -implicitDefEqProofs [w1, w2]) | refine hK _ ?_ | refine hK _ _ (by rfl) ?_ | (refine ar_call (cp q1 ?_); simp -implicitDefEqProofs [w1, w2]) | (refine ard_call (dp q1 ?_); simp -implicitDefEqProofs [w1, w2]) | (refine ar_call (cp q2 ?_); simp -implicitDefEqProofs [w1, w2]) | (refine ard_call (dp q2 ?_); simp -implicitDefEqProofs [w1, w2]) | fail)
    refine aw_ret (fin_ret ?_); simp -implicitDefEqProofs [FinP, resV, resT] <;> try rfl
  rw [if_neg e2]
  have hq := list_row ts hl (o + 1) (by omega) (fun j h1 h2 => hE j (by omega) h2)
  have hc := lpC_ok (Q_ok (ts := ts) 1) (ts.length + 1) (o + 1) [] (by omega)
  obtain ⟨⟨c1, c2, c3⟩, hr⟩ : ∃ r, lpC ts (Qx ts 1) (ts.length + 1) (o + 1) [] = r := ⟨_, rfl⟩
  rw [hr] at hq hc ⊢
  obtain ⟨b2, hb2⟩ : ∃ b, isK ls (nxt ts (o + 1)) = b := ⟨_, rfl⟩
  rw [hb2] at q2 e2
  have q3 := sign_row ts c2 ls
  rw [sign_is hs] at q3
  have hle := hc.le
  dsimp only at hle
  have w3 : IntKind.i64.wrap ((c2 : Nat) + 1 : Int) = (c2 : Nat) + 1 := i64i _ (by omega) (by omega)
  by_cases hc3 : c3 = 0; rotate_left
  · rw [if_pos hc3]
    clear hE hr hb2 hc e1
    cases few
    · refine row_of Tryd.func100 rfl rfl (Nat.le_of_ble_eq_true rfl) ?_
      repeat' (first | refine aw_seq ?_ | refine aw_skip ?_ | refine aw_block ?_ | refine aw_exit ?_ | refine aw_cond rfl (fun _ => ?_) (fun hb => absurd hb (by decide)) | refine aw_cond rfl (fun hb => absurd hb (by decide)) (fun _ => ?_) | (refine aw_reg (fun K hK => ?_); simp -implicitDefEqProofs [w1, w2, hc3]) | (refine aw_drw mixd (fun K hK => ?_); simp -implicitDefEqProofs [w1, w2, hc3]) | refine hK _ ?_ | refine hK _ _ (by rfl) ?_ | (refine ar_call (cp q1 ?_); simp -implicitDefEqProofs [w1, w2, hc3]) | (refine ard_call (dp q1 ?_); simp -implicitDefEqProofs [w1, w2, hc3]) | (refine ar_call (cp q2 ?_); simp -implicitDefEqProofs [w1, w2, hc3]) | (refine ard_call (dp q2 ?_); simp -implicitDefEqProofs [w1, w2, hc3]) | (refine ar_call (cp hq ?_); simp -implicitDefEqProofs [w1, w2, hc3]) | (refine ard_call (dp hq ?_); simp -implicitDefEqProofs [w1, w2, hc3]) | fail)
      refine aw_ret (fin_ret ?_); simp -implicitDefEqProofs [FinP, resV, resT] <;> try rfl
    · obtain rfl : b2 = false := by simpa using e2
      refine row_of Tryd.func100 rfl rfl (Nat.le_of_ble_eq_true rfl) ?_
      repeat' (first | refine aw_seq ?_ | refine aw_skip ?_ | refine aw_block ?_ | refine aw_exit ?_ | refine aw_cond rfl (fun _ => ?_) (fun hb => absurd hb (by decide)) | refine aw_cond rfl (fun hb => absurd hb (by decide)) (fun _ => ?_) | (refine aw_reg (fun K hK => ?_); simp -implicitDefEqProofs [w1, w2, hc3]) | (refine aw_drw mixd (fun K hK => ?_); simp -implicitDefEqProofs [w1, w2, hc3]) | refine hK _ ?_ | refine hK _ _ (by rfl) ?_ | (refine ar_call (cp q1 ?_); simp -implicitDefEqProofs [w1, w2, hc3]) | (refine ard_call (dp q1 ?_); simp -implicitDefEqProofs [w1, w2, hc3]) | (refine ar_call (cp q2 ?_); simp -implicitDefEqProofs [w1, w2, hc3]) | (refine ard_call (dp q2 ?_); simp -implicitDefEqProofs [w1, w2, hc3]) | (refine ar_call (cp hq ?_); simp -implicitDefEqProofs [w1, w2, hc3]) | (refine ard_call (dp hq ?_); simp -implicitDefEqProofs [w1, w2, hc3]) | fail)
      refine aw_ret (fin_ret ?_); simp -implicitDefEqProofs [FinP, resV, resT] <;> try rfl
  subst hc3
  rw [if_neg (by simp)]
  dsimp only
  by_cases e3 : isK ls (nxt ts c2) = true
  · rw [if_neg (by simp [e3])]
    rw [e3] at q3
    clear hE hr hb2 hc e1 e3
    cases few
    · refine row_of Tryd.func100 rfl rfl (Nat.le_of_ble_eq_true rfl) ?_
      repeat' (first | refine aw_seq ?_ | refine aw_skip ?_ | refine aw_block ?_ | refine aw_exit ?_ | refine aw_cond rfl (fun _ => ?_) (fun hb => absurd hb (by decide)) | refine aw_cond rfl (fun hb => absurd hb (by decide)) (fun _ => ?_) | (refine aw_reg (fun K hK => ?_); simp -implicitDefEqProofs [w1, w2, w3]) | (refine aw_drw mixd (fun K hK => ?_); simp -implicitDefEqProofs [w1, w2, w3]) | refine hK _ ?_ | refine hK _ _ (by rfl) ?_ | (refine ar_call (cp q1 ?_); simp -implicitDefEqProofs [w1, w2, w3]) | (refine ard_call (dp q1 ?_); simp -implicitDefEqProofs [w1, w2, w3]) | (refine ar_call (cp q2 ?_); simp -implicitDefEqProofs [w1, w2, w3]) | (refine ard_call (dp q2 ?_); simp -implicitDefEqProofs [w1, w2, w3]) | (refine ar_call (cp hq ?_); simp -implicitDefEqProofs [w1, w2, w3]) | (refine ard_call (dp hq ?_); simp -implicitDefEqProofs [w1, w2, w3]) | (refine ar_call (cp q3 ?_); simp -implicitDefEqProofs [w1, w2, w3]) | (refine ard_call (dp q3 ?_); simp -implicitDefEqProofs [w1, w2, w3]) | fail)
      refine aw_ret (fin_ret ?_); simp -implicitDefEqProofs [FinP, resV, resT] <;> try rfl
    · obtain rfl : b2 = false := by simpa using e2
      refine row_of Tryd.func100 rfl rfl (Nat.le_of_ble_eq_true rfl) ?_
      repeat' (first | refine aw_seq ?_ | refine aw_skip ?_ | refine aw_block ?_ | refine aw_exit ?_ | refine aw_cond rfl (fun _ => ?_) (fun hb => absurd hb (by decide)) | refine aw_cond rfl (fun hb => absurd hb (by decide)) (fun _ => ?_) | (refine aw_reg (fun K hK => ?_); simp -implicitDefEqProofs [w1, w2, w3]) | (refine aw_drw mixd (fun K hK => ?_); simp -implicitDefEqProofs [w1, w2, w3]) | refine hK _ ?_ | refine hK _ _ (by rfl) ?_ | (refine ar_call (cp q1 ?_); simp -implicitDefEqProofs [w1, w2, w3]) | (refine ard_call (dp q1 ?_); simp -implicitDefEqProofs [w1, w2, w3]) | (refine ar_call (cp q2 ?_); simp -implicitDefEqProofs [w1, w2, w3]) | (refine ard_call (dp q2 ?_); simp -implicitDefEqProofs [w1, w2, w3]) | (refine ar_call (cp hq ?_); simp -implicitDefEqProofs [w1, w2, w3]) | (refine ard_call (dp hq ?_); simp -implicitDefEqProofs [w1, w2, w3]) | (refine ar_call (cp q3 ?_); simp -implicitDefEqProofs [w1, w2, w3]) | (refine ard_call (dp q3 ?_); simp -implicitDefEqProofs [w1, w2, w3]) | fail)
      refine aw_ret (fin_ret ?_); simp -implicitDefEqProofs [FinP, resV, resT] <;> try rfl
  · have e3 : isK ls (nxt ts c2) = false := by simpa using e3
    rw [if_pos e3]
    rw [e3] at q3
    clear hE hr hb2 hc e1 e3
    cases few
    · refine row_of Tryd.func100 rfl rfl (Nat.le_of_ble_eq_true rfl) ?_
      repeat' (first | refine aw_seq ?_ | refine aw_skip ?_ | refine aw_block ?_ | refine aw_exit ?_ | refine aw_cond rfl (fun _ => ?_) (fun hb => absurd hb (by decide)) | refine aw_cond rfl (fun hb => absurd hb (by decide)) (fun _ => ?_) | (refine aw_reg (fun K hK => ?_); simp -implicitDefEqProofs [w1, w2, w3]) | (refine aw_drw mixd (fun K hK => ?_); simp -implicitDefEqProofs [w1, w2, w3]) | refine hK _ ?_ | refine hK _ _ (by rfl) ?_ | (refine ar_call (cp q1 ?_); simp -implicitDefEqProofs [w1, w2, w3]) | (refine ard_call (dp q1 ?_); simp -implicitDefEqProofs [w1, w2, w3]) | (refine ar_call (cp q2 ?_); simp -implicitDefEqProofs [w1, w2, w3]) | (refine ard_call (dp q2 ?_); simp -implicitDefEqProofs [w1, w2, w3]) | (refine ar_call (cp hq ?_); simp -implicitDefEqProofs [w1, w2, w3]) | (refine ard_call (dp hq ?_); simp -implicitDefEqProofs [w1, w2, w3]) | (refine ar_call (cp q3 ?_); simp -implicitDefEqProofs [w1, w2, w3]) | (refine ard_call (dp q3 ?_); simp -implicitDefEqProofs [w1, w2, w3]) | fail)
      refine aw_ret (fin_ret ?_); simp -implicitDefEqProofs [FinP, resV, resT] <;> try rfl
    · obtain rfl : b2 = false := by simpa using e2
      refine row_of Tryd.func100 rfl rfl (Nat.le_of_ble_eq_true rfl) ?_
      repeat' (first | refine aw_seq ?_ | refine aw_skip ?_ | refine aw_block ?_ | refine aw_exit ?_ | refine aw_cond rfl (fun _ => ?_) (fun hb => absurd hb (by decide)) | refine aw_cond rfl (fun hb => absurd hb (by decide)) (fun _ => ?_) | (refine aw_reg (fun K hK => ?_); simp -implicitDefEqProofs [w1, w2, w3]) | (refine aw_drw mixd (fun K hK => ?_); simp -implicitDefEqProofs [w1, w2, w3]) | refine hK _ ?_ | refine hK _ _ (by rfl) ?_ | (refine ar_call (cp q1 ?_); simp -implicitDefEqProofs [w1, w2, w3]) | (refine ard_call (dp q1 ?_); simp -implicitDefEqProofs [w1, w2, w3]) | (refine ar_call (cp q2 ?_); simp -implicitDefEqProofs [w1, w2, w3]) | (refine ard_call (dp q2 ?_); simp -implicitDefEqProofs [w1, w2, w3]) | (refine ar_call (cp hq ?_); simp -implicitDefEqProofs [w1, w2, w3]) | (refine ard_call (dp hq ?_); simp -implicitDefEqProofs [w1, w2, w3]) | (refine ar_call (cp q3 ?_); simp -implicitDefEqProofs [w1, w2, w3]) | (refine ard_call (dp q3 ?_); simp -implicitDefEqProofs [w1, w2, w3]) | fail)
      refine aw_ret (fin_ret ?_); simp -implicitDefEqProofs [FinP, resV, resT] <;> try rfl
structure FinR (i o : Nat) (k : Int) (s : ByteArray) (c : List VT × Nat × Int) : Prop where
  no : c.2.2 ≠ 0 → finC ts i k s c = (z0, c.2.1, c.2.2)
  yes : c.2.2 = 0 → Row Tryd.prog 52 [vKs ts, vI i, vI c.2.1, vI k, vI 0, vS s, vLs c.1] [] (vG (finC ts i k s c)) []
set_option maxRecDepth 100000 in
set_option maxHeartbeats 4000000 in
theorem fin_row (i o : Nat) (k : Int) (s : ByteArray) (c : List VT × Nat × Int) (h : OkC ts o c) (hi : i ≤ o) : FinR ts i o k s c := by
  refine ⟨fun h => by unfold finC; rw [if_pos h], fun h0 => ?_⟩
  unfold finC
  rw [if_neg (by simp [h0])]
  have := h.yes h0
  exact rmk_row ts hl i c.2.1 k 0 s c.1 (by omega) h.le.2
set_option maxRecDepth 100000 in
set_option maxHeartbeats 4000000 in
theorem called_step (i : Nat) (hi : i ≤ ts.length) (hE : ∀ j, i < j → j ≤ ts.length → Row Tryd.prog 13 [vKs ts, vI j] [] (vG (Qx ts 1 j)) []) : Row Tryd.prog 92 [vKs ts, vI i] [] (vG (calG ts (Qx ts 1) i)) [] := by
  have o := now_row ts i
  have q1 := sign_row ts i sOpen
  rw [sign_is (by decide)] at q1
  have q2 := sign_row ts i sAt
  rw [sign_is (by decide)] at q2
  have q3 := word_row ts i wNew
  rw [word_is (by decide)] at q3
  have w1 : IntKind.i64.wrap ((i : Nat) + 1 : Int) = (i : Nat) + 1 := i64i _ (by omega) (by omega)
  have w2 : IntKind.i64.wrap ((i : Nat) + 2 : Int) = (i : Nat) + 2 := i64i _ (by omega) (by omega)
  unfold calG
  by_cases e1 : (nxt ts i).k = 1
  · have hlt := k_lt e1 (by decide)
    rw [if_pos e1]
    have hq := closed_row ts hl (i + 1) true sParO sParS (by decide) (by decide) (by omega) (fun j h1 h2 => hE j (by omega) h2)
    have hf := fin_row ts hl i (i + 1) 16 (nxt ts i).s _ (cloG_ok (Q_ok (ts := ts) 1) true sParO sParS (by omega)) (by omega)
    obtain ⟨⟨c1, c2, c3⟩, hr⟩ : ∃ r, cloG ts (Qx ts 1) (i + 1) true sParO sParS = r := ⟨_, rfl⟩
    rw [hr] at hq hf ⊢
    clear hE hr
    by_cases h3 : c3 = 0
    · subst h3
      have m := hf.yes rfl
      dsimp only at m
      refine row_of Tryd.func92 rfl rfl (Nat.le_of_ble_eq_true rfl) ?_
      repeat' (first | refine aw_seq ?_ | refine aw_skip ?_ | refine aw_block ?_ | refine aw_exit ?_ | refine aw_cond rfl (fun _ => ?_) (fun hb => absurd hb (by decide)) | refine aw_cond rfl (fun hb => absurd hb (by decide)) (fun _ => ?_) | (refine aw_reg (fun K hK => ?_); simp -implicitDefEqProofs [w1, e1]) | (refine aw_drw mixd (fun K hK => ?_); simp -implicitDefEqProofs [w1, e1]) | refine hK _ ?_ | refine hK _ _ (by rfl) ?_ | (refine ar_call (cp o ?_); simp -implicitDefEqProofs [w1, e1]) | (refine ard_call (dp o ?_); simp -implicitDefEqProofs [w1, e1]) | (refine ar_call (cp hq ?_); simp -implicitDefEqProofs [w1, e1]) | (refine ard_call (dp hq ?_); simp -implicitDefEqProofs [w1, e1]) | (refine ar_call (cp m ?_); simp -implicitDefEqProofs [w1, e1]) | (refine ard_call (dp m ?_); simp -implicitDefEqProofs [w1, e1]) | fail)
      refine aw_ret (fin_ret ?_); simp -implicitDefEqProofs [FinP, resV, resT, finC, mk7] <;> try rfl
    · rw [hf.no h3]
      refine row_of Tryd.func92 rfl rfl (Nat.le_of_ble_eq_true rfl) ?_
      repeat' (first | refine aw_seq ?_ | refine aw_skip ?_ | refine aw_block ?_ | refine aw_exit ?_ | refine aw_cond rfl (fun _ => ?_) (fun hb => absurd hb (by decide)) | refine aw_cond rfl (fun hb => absurd hb (by decide)) (fun _ => ?_) | (refine aw_reg (fun K hK => ?_); simp -implicitDefEqProofs [w1, e1, h3]) | (refine aw_drw mixd (fun K hK => ?_); simp -implicitDefEqProofs [w1, e1, h3]) | refine hK _ ?_ | refine hK _ _ (by rfl) ?_ | (refine ar_call (cp o ?_); simp -implicitDefEqProofs [w1, e1, h3]) | (refine ard_call (dp o ?_); simp -implicitDefEqProofs [w1, e1, h3]) | (refine ar_call (cp hq ?_); simp -implicitDefEqProofs [w1, e1, h3]) | (refine ard_call (dp hq ?_); simp -implicitDefEqProofs [w1, e1, h3]) | fail)
      refine aw_ret (fin_ret ?_); simp -implicitDefEqProofs [FinP, resV, resT, z0] <;> try rfl
  rw [if_neg e1]
  by_cases e2 : isK sOpen (nxt ts i) = true
  · have hlt := isK_lt e2
    rw [if_pos e2]
    rw [e2] at q1
    have hq := closed_row ts hl i false sOpen sShut (by decide) (by decide) (by omega) (fun j h1 h2 => hE j (by omega) h2)
    have hf := fin_row ts hl i i 14 ⟨#[]⟩ _ (cloG_ok (Q_ok (ts := ts) 1) false sOpen sShut (by omega)) (by omega)
    obtain ⟨⟨c1, c2, c3⟩, hr⟩ : ∃ r, cloG ts (Qx ts 1) i false sOpen sShut = r := ⟨_, rfl⟩
    rw [hr] at hq hf ⊢
    clear hE hr
    by_cases h3 : c3 = 0
    · subst h3
      have m := hf.yes rfl
      dsimp only at m
      refine row_of Tryd.func92 rfl rfl (Nat.le_of_ble_eq_true rfl) ?_
      repeat' (first | refine aw_seq ?_ | refine aw_skip ?_ | refine aw_block ?_ | refine aw_exit ?_ | refine aw_cond rfl (fun _ => ?_) (fun hb => absurd hb (by decide)) | refine aw_cond rfl (fun hb => absurd hb (by decide)) (fun _ => ?_) | (refine aw_reg (fun K hK => ?_); simp -implicitDefEqProofs [w1, e1]) | (refine aw_drw mixd (fun K hK => ?_); simp -implicitDefEqProofs [w1, e1]) | refine hK _ ?_ | refine hK _ _ (by rfl) ?_ | (refine ar_call (cp o ?_); simp -implicitDefEqProofs [w1, e1]) | (refine ard_call (dp o ?_); simp -implicitDefEqProofs [w1, e1]) | (refine ar_call (cp q1 ?_); simp -implicitDefEqProofs [w1, e1]) | (refine ard_call (dp q1 ?_); simp -implicitDefEqProofs [w1, e1]) | (refine ar_call (cp hq ?_); simp -implicitDefEqProofs [w1, e1]) | (refine ard_call (dp hq ?_); simp -implicitDefEqProofs [w1, e1]) | (refine ar_call (cp m ?_); simp -implicitDefEqProofs [w1, e1]) | (refine ard_call (dp m ?_); simp -implicitDefEqProofs [w1, e1]) | fail)
      refine aw_ret (fin_ret ?_); simp -implicitDefEqProofs [FinP, resV, resT, finC, mk7] <;> try rfl
    · rw [hf.no h3]
      refine row_of Tryd.func92 rfl rfl (Nat.le_of_ble_eq_true rfl) ?_
      repeat' (first | refine aw_seq ?_ | refine aw_skip ?_ | refine aw_block ?_ | refine aw_exit ?_ | refine aw_cond rfl (fun _ => ?_) (fun hb => absurd hb (by decide)) | refine aw_cond rfl (fun hb => absurd hb (by decide)) (fun _ => ?_) | (refine aw_reg (fun K hK => ?_); simp -implicitDefEqProofs [w1, e1, h3]) | (refine aw_drw mixd (fun K hK => ?_); simp -implicitDefEqProofs [w1, e1, h3]) | refine hK _ ?_ | refine hK _ _ (by rfl) ?_ | (refine ar_call (cp o ?_); simp -implicitDefEqProofs [w1, e1, h3]) | (refine ard_call (dp o ?_); simp -implicitDefEqProofs [w1, e1, h3]) | (refine ar_call (cp q1 ?_); simp -implicitDefEqProofs [w1, e1, h3]) | (refine ard_call (dp q1 ?_); simp -implicitDefEqProofs [w1, e1, h3]) | (refine ar_call (cp hq ?_); simp -implicitDefEqProofs [w1, e1, h3]) | (refine ard_call (dp hq ?_); simp -implicitDefEqProofs [w1, e1, h3]) | fail)
      refine aw_ret (fin_ret ?_); simp -implicitDefEqProofs [FinP, resV, resT, z0] <;> try rfl
  rw [if_neg e2]
  rw [show isK sOpen (nxt ts i) = false by simpa using e2] at q1
  have o1 := now_row ts (i + 1)
  by_cases e3 : isK sAt (nxt ts i) = true
  · have hlt := isK_lt e3
    rw [if_pos e3]
    rw [e3] at q2
    have e4 : isK wNew (nxt ts i) = false := by
      unfold isK at e3 ⊢
      have h4 : quo wNew = 3 := by decide
      have h5 : quo sAt = 4 := by decide
      rw [h5] at e3
      rw [h4]
      simp at e3 ⊢
      intro h; omega
    rw [e4] at q3
    by_cases e5 : (nxt ts (i + 1)).k = 1; rotate_left
    · rw [if_pos e5]
      have b := bad_row (i + 1)
      clear hE e2 e3 e4
      refine row_of Tryd.func92 rfl rfl (Nat.le_of_ble_eq_true rfl) ?_
      repeat' (first | refine aw_seq ?_ | refine aw_skip ?_ | refine aw_block ?_ | refine aw_exit ?_ | refine aw_cond rfl (fun _ => ?_) (fun hb => absurd hb (by decide)) | refine aw_cond rfl (fun hb => absurd hb (by decide)) (fun _ => ?_) | (refine aw_reg (fun K hK => ?_); simp -implicitDefEqProofs [w1, e1, e5]) | (refine aw_drw mixd (fun K hK => ?_); simp -implicitDefEqProofs [w1, e1, e5]) | refine hK _ ?_ | refine hK _ _ (by rfl) ?_ | (refine ar_call (cp o ?_); simp -implicitDefEqProofs [w1, e1, e5]) | (refine ard_call (dp o ?_); simp -implicitDefEqProofs [w1, e1, e5]) | (refine ar_call (cp q1 ?_); simp -implicitDefEqProofs [w1, e1, e5]) | (refine ard_call (dp q1 ?_); simp -implicitDefEqProofs [w1, e1, e5]) | (refine ar_call (cp q2 ?_); simp -implicitDefEqProofs [w1, e1, e5]) | (refine ard_call (dp q2 ?_); simp -implicitDefEqProofs [w1, e1, e5]) | (refine ar_call (cp q3 ?_); simp -implicitDefEqProofs [w1, e1, e5]) | (refine ard_call (dp q3 ?_); simp -implicitDefEqProofs [w1, e1, e5]) | (refine ar_call (cp o1 ?_); simp -implicitDefEqProofs [w1, e1, e5]) | (refine ard_call (dp o1 ?_); simp -implicitDefEqProofs [w1, e1, e5]) | (refine ar_call (cp b ?_); simp -implicitDefEqProofs [w1, e1, e5]) | (refine ard_call (dp b ?_); simp -implicitDefEqProofs [w1, e1, e5]) | fail)
      refine aw_ret (fin_ret ?_); simp -implicitDefEqProofs [FinP, resV, resT, bad7, z0] <;> try rfl
    have hlt2 := k_lt e5 (by decide)
    rw [if_neg (by simp [e5])]
    have hq := closed_row ts hl (i + 2) true sParO sParS (by decide) (by decide) (by omega) (fun j h1 h2 => hE j (by omega) h2)
    have hf := fin_row ts hl i (i + 2) 17 (nxt ts (i + 1)).s _ (cloG_ok (Q_ok (ts := ts) 1) true sParO sParS (by omega)) (by omega)
    obtain ⟨⟨c1, c2, c3⟩, hr⟩ : ∃ r, cloG ts (Qx ts 1) (i + 2) true sParO sParS = r := ⟨_, rfl⟩
    rw [hr] at hq hf ⊢
    clear hE hr e2 e3 e4
    by_cases h3 : c3 = 0
    · subst h3
      have m := hf.yes rfl
      dsimp only at m
      refine row_of Tryd.func92 rfl rfl (Nat.le_of_ble_eq_true rfl) ?_
      repeat' (first | refine aw_seq ?_ | refine aw_skip ?_ | refine aw_block ?_ | refine aw_exit ?_ | refine aw_cond rfl (fun _ => ?_) (fun hb => absurd hb (by decide)) | refine aw_cond rfl (fun hb => absurd hb (by decide)) (fun _ => ?_) | (refine aw_reg (fun K hK => ?_); simp -implicitDefEqProofs [w1, w2, e1, e5]) | (refine aw_drw mixd (fun K hK => ?_); simp -implicitDefEqProofs [w1, w2, e1, e5]) | refine hK _ ?_ | refine hK _ _ (by rfl) ?_ | (refine ar_call (cp o ?_); simp -implicitDefEqProofs [w1, w2, e1, e5]) | (refine ard_call (dp o ?_); simp -implicitDefEqProofs [w1, w2, e1, e5]) | (refine ar_call (cp q1 ?_); simp -implicitDefEqProofs [w1, w2, e1, e5]) | (refine ard_call (dp q1 ?_); simp -implicitDefEqProofs [w1, w2, e1, e5]) | (refine ar_call (cp q2 ?_); simp -implicitDefEqProofs [w1, w2, e1, e5]) | (refine ard_call (dp q2 ?_); simp -implicitDefEqProofs [w1, w2, e1, e5]) | (refine ar_call (cp q3 ?_); simp -implicitDefEqProofs [w1, w2, e1, e5]) | (refine ard_call (dp q3 ?_); simp -implicitDefEqProofs [w1, w2, e1, e5]) | (refine ar_call (cp o1 ?_); simp -implicitDefEqProofs [w1, w2, e1, e5]) | (refine ard_call (dp o1 ?_); simp -implicitDefEqProofs [w1, w2, e1, e5]) | (refine ar_call (cp hq ?_); simp -implicitDefEqProofs [w1, w2, e1, e5]) | (refine ard_call (dp hq ?_); simp -implicitDefEqProofs [w1, w2, e1, e5]) | (refine ar_call (cp m ?_); simp -implicitDefEqProofs [w1, w2, e1, e5]) | (refine ard_call (dp m ?_); simp -implicitDefEqProofs [w1, w2, e1, e5]) | fail)
      refine aw_ret (fin_ret ?_); simp -implicitDefEqProofs [FinP, resV, resT, finC, mk7] <;> try rfl
    · rw [hf.no h3]
      refine row_of Tryd.func92 rfl rfl (Nat.le_of_ble_eq_true rfl) ?_
      repeat' (first | refine aw_seq ?_ | refine aw_skip ?_ | refine aw_block ?_ | refine aw_exit ?_ | refine aw_cond rfl (fun _ => ?_) (fun hb => absurd hb (by decide)) | refine aw_cond rfl (fun hb => absurd hb (by decide)) (fun _ => ?_) | (refine aw_reg (fun K hK => ?_); simp -implicitDefEqProofs [w1, w2, e1, e5, h3]) | (refine aw_drw mixd (fun K hK => ?_); simp -implicitDefEqProofs [w1, w2, e1, e5, h3]) | refine hK _ ?_ | refine hK _ _ (by rfl) ?_ | (refine ar_call (cp o ?_); simp -implicitDefEqProofs [w1, w2, e1, e5, h3]) | (refine ard_call (dp o ?_); simp -implicitDefEqProofs [w1, w2, e1, e5, h3]) | (refine ar_call (cp q1 ?_); simp -implicitDefEqProofs [w1, w2, e1, e5, h3]) | (refine ard_call (dp q1 ?_); simp -implicitDefEqProofs [w1, w2, e1, e5, h3]) | (refine ar_call (cp q2 ?_); simp -implicitDefEqProofs [w1, w2, e1, e5, h3]) | (refine ard_call (dp q2 ?_); simp -implicitDefEqProofs [w1, w2, e1, e5, h3]) | (refine ar_call (cp q3 ?_); simp -implicitDefEqProofs [w1, w2, e1, e5, h3]) | (refine ard_call (dp q3 ?_); simp -implicitDefEqProofs [w1, w2, e1, e5, h3]) | (refine ar_call (cp o1 ?_); simp -implicitDefEqProofs [w1, w2, e1, e5, h3]) | (refine ard_call (dp o1 ?_); simp -implicitDefEqProofs [w1, w2, e1, e5, h3]) | (refine ar_call (cp hq ?_); simp -implicitDefEqProofs [w1, w2, e1, e5, h3]) | (refine ard_call (dp hq ?_); simp -implicitDefEqProofs [w1, w2, e1, e5, h3]) | fail)
      refine aw_ret (fin_ret ?_); simp -implicitDefEqProofs [FinP, resV, resT, z0] <;> try rfl
  rw [if_neg e3]
  rw [show isK sAt (nxt ts i) = false by simpa using e3] at q2
  by_cases e4 : isK wNew (nxt ts i) = true
  · have hlt := isK_lt e4
    rw [if_pos e4]
    rw [e4] at q3
    by_cases e5 : (nxt ts (i + 1)).k = 1; rotate_left
    · rw [if_pos e5]
      have b := bad_row (i + 1)
      clear hE e2 e3 e4
      refine row_of Tryd.func92 rfl rfl (Nat.le_of_ble_eq_true rfl) ?_
      repeat' (first | refine aw_seq ?_ | refine aw_skip ?_ | refine aw_block ?_ | refine aw_exit ?_ | refine aw_cond rfl (fun _ => ?_) (fun hb => absurd hb (by decide)) | refine aw_cond rfl (fun hb => absurd hb (by decide)) (fun _ => ?_) | (refine aw_reg (fun K hK => ?_); simp -implicitDefEqProofs [w1, e1, e5]) | (refine aw_drw mixd (fun K hK => ?_); simp -implicitDefEqProofs [w1, e1, e5]) | refine hK _ ?_ | refine hK _ _ (by rfl) ?_ | (refine ar_call (cp o ?_); simp -implicitDefEqProofs [w1, e1, e5]) | (refine ard_call (dp o ?_); simp -implicitDefEqProofs [w1, e1, e5]) | (refine ar_call (cp q1 ?_); simp -implicitDefEqProofs [w1, e1, e5]) | (refine ard_call (dp q1 ?_); simp -implicitDefEqProofs [w1, e1, e5]) | (refine ar_call (cp q2 ?_); simp -implicitDefEqProofs [w1, e1, e5]) | (refine ard_call (dp q2 ?_); simp -implicitDefEqProofs [w1, e1, e5]) | (refine ar_call (cp q3 ?_); simp -implicitDefEqProofs [w1, e1, e5]) | (refine ard_call (dp q3 ?_); simp -implicitDefEqProofs [w1, e1, e5]) | (refine ar_call (cp o1 ?_); simp -implicitDefEqProofs [w1, e1, e5]) | (refine ard_call (dp o1 ?_); simp -implicitDefEqProofs [w1, e1, e5]) | (refine ar_call (cp b ?_); simp -implicitDefEqProofs [w1, e1, e5]) | (refine ard_call (dp b ?_); simp -implicitDefEqProofs [w1, e1, e5]) | fail)
      refine aw_ret (fin_ret ?_); simp -implicitDefEqProofs [FinP, resV, resT, bad7, z0] <;> try rfl
    have hlt2 := k_lt e5 (by decide)
    rw [if_neg (by simp [e5])]
    have hq := closed_row ts hl (i + 2) false sParO sParS (by decide) (by decide) (by omega) (fun j h1 h2 => hE j (by omega) h2)
    have hf := fin_row ts hl i (i + 2) 15 (nxt ts (i + 1)).s _ (cloG_ok (Q_ok (ts := ts) 1) false sParO sParS (by omega)) (by omega)
    obtain ⟨⟨c1, c2, c3⟩, hr⟩ : ∃ r, cloG ts (Qx ts 1) (i + 2) false sParO sParS = r := ⟨_, rfl⟩
    rw [hr] at hq hf ⊢
    clear hE hr e2 e3 e4
    by_cases h3 : c3 = 0
    · subst h3
      have m := hf.yes rfl
      dsimp only at m
      refine row_of Tryd.func92 rfl rfl (Nat.le_of_ble_eq_true rfl) ?_
      repeat' (first | refine aw_seq ?_ | refine aw_skip ?_ | refine aw_block ?_ | refine aw_exit ?_ | refine aw_cond rfl (fun _ => ?_) (fun hb => absurd hb (by decide)) | refine aw_cond rfl (fun hb => absurd hb (by decide)) (fun _ => ?_) | (refine aw_reg (fun K hK => ?_); simp -implicitDefEqProofs [w1, w2, e1, e5]) | (refine aw_drw mixd (fun K hK => ?_); simp -implicitDefEqProofs [w1, w2, e1, e5]) | refine hK _ ?_ | refine hK _ _ (by rfl) ?_ | (refine ar_call (cp o ?_); simp -implicitDefEqProofs [w1, w2, e1, e5]) | (refine ard_call (dp o ?_); simp -implicitDefEqProofs [w1, w2, e1, e5]) | (refine ar_call (cp q1 ?_); simp -implicitDefEqProofs [w1, w2, e1, e5]) | (refine ard_call (dp q1 ?_); simp -implicitDefEqProofs [w1, w2, e1, e5]) | (refine ar_call (cp q2 ?_); simp -implicitDefEqProofs [w1, w2, e1, e5]) | (refine ard_call (dp q2 ?_); simp -implicitDefEqProofs [w1, w2, e1, e5]) | (refine ar_call (cp q3 ?_); simp -implicitDefEqProofs [w1, w2, e1, e5]) | (refine ard_call (dp q3 ?_); simp -implicitDefEqProofs [w1, w2, e1, e5]) | (refine ar_call (cp o1 ?_); simp -implicitDefEqProofs [w1, w2, e1, e5]) | (refine ard_call (dp o1 ?_); simp -implicitDefEqProofs [w1, w2, e1, e5]) | (refine ar_call (cp hq ?_); simp -implicitDefEqProofs [w1, w2, e1, e5]) | (refine ard_call (dp hq ?_); simp -implicitDefEqProofs [w1, w2, e1, e5]) | (refine ar_call (cp m ?_); simp -implicitDefEqProofs [w1, w2, e1, e5]) | (refine ard_call (dp m ?_); simp -implicitDefEqProofs [w1, w2, e1, e5]) | fail)
      refine aw_ret (fin_ret ?_); simp -implicitDefEqProofs [FinP, resV, resT, finC, mk7] <;> try rfl
    · rw [hf.no h3]
      refine row_of Tryd.func92 rfl rfl (Nat.le_of_ble_eq_true rfl) ?_
      repeat' (first | refine aw_seq ?_ | refine aw_skip ?_ | refine aw_block ?_ | refine aw_exit ?_ | refine aw_cond rfl (fun _ => ?_) (fun hb => absurd hb (by decide)) | refine aw_cond rfl (fun hb => absurd hb (by decide)) (fun _ => ?_) | (refine aw_reg (fun K hK => ?_); simp -implicitDefEqProofs [w1, w2, e1, e5, h3]) | (refine aw_drw mixd (fun K hK => ?_); simp -implicitDefEqProofs [w1, w2, e1, e5, h3]) | refine hK _ ?_ | refine hK _ _ (by rfl) ?_ | (refine ar_call (cp o ?_); simp -implicitDefEqProofs [w1, w2, e1, e5, h3]) | (refine ard_call (dp o ?_); simp -implicitDefEqProofs [w1, w2, e1, e5, h3]) | (refine ar_call (cp q1 ?_); simp -implicitDefEqProofs [w1, w2, e1, e5, h3]) | (refine ard_call (dp q1 ?_); simp -implicitDefEqProofs [w1, w2, e1, e5, h3]) | (refine ar_call (cp q2 ?_); simp -implicitDefEqProofs [w1, w2, e1, e5, h3]) | (refine ard_call (dp q2 ?_); simp -implicitDefEqProofs [w1, w2, e1, e5, h3]) | (refine ar_call (cp q3 ?_); simp -implicitDefEqProofs [w1, w2, e1, e5, h3]) | (refine ard_call (dp q3 ?_); simp -implicitDefEqProofs [w1, w2, e1, e5, h3]) | (refine ar_call (cp o1 ?_); simp -implicitDefEqProofs [w1, w2, e1, e5, h3]) | (refine ard_call (dp o1 ?_); simp -implicitDefEqProofs [w1, w2, e1, e5, h3]) | (refine ar_call (cp hq ?_); simp -implicitDefEqProofs [w1, w2, e1, e5, h3]) | (refine ard_call (dp hq ?_); simp -implicitDefEqProofs [w1, w2, e1, e5, h3]) | fail)
      refine aw_ret (fin_ret ?_); simp -implicitDefEqProofs [FinP, resV, resT, z0] <;> try rfl
  rw [if_neg e4]
  rw [show isK wNew (nxt ts i) = false by simpa using e4] at q3
  have b := bad_row i
  clear hE e2 e3 e4
  refine row_of Tryd.func92 rfl rfl (Nat.le_of_ble_eq_true rfl) ?_
  repeat' (first | refine aw_seq ?_ | refine aw_skip ?_ | refine aw_block ?_ | refine aw_exit ?_ | refine aw_cond rfl (fun _ => ?_) (fun hb => absurd hb (by decide)) | refine aw_cond rfl (fun hb => absurd hb (by decide)) (fun _ => ?_) | (refine aw_reg (fun K hK => ?_); simp -implicitDefEqProofs [w1, e1]) | (refine aw_drw mixd (fun K hK => ?_); simp -implicitDefEqProofs [w1, e1]) | refine hK _ ?_ | refine hK _ _ (by rfl) ?_ | (refine ar_call (cp o ?_); simp -implicitDefEqProofs [w1, e1]) | (refine ard_call (dp o ?_); simp -implicitDefEqProofs [w1, e1]) | (refine ar_call (cp q1 ?_); simp -implicitDefEqProofs [w1, e1]) | (refine ard_call (dp q1 ?_); simp -implicitDefEqProofs [w1, e1]) | (refine ar_call (cp q2 ?_); simp -implicitDefEqProofs [w1, e1]) | (refine ard_call (dp q2 ?_); simp -implicitDefEqProofs [w1, e1]) | (refine ar_call (cp q3 ?_); simp -implicitDefEqProofs [w1, e1]) | (refine ard_call (dp q3 ?_); simp -implicitDefEqProofs [w1, e1]) | (refine ar_call (cp b ?_); simp -implicitDefEqProofs [w1, e1]) | (refine ard_call (dp b ?_); simp -implicitDefEqProofs [w1, e1]) | fail)
  refine aw_ret (fin_ret ?_); simp -implicitDefEqProofs [FinP, resV, resT, bad7, z0] <;> try rfl
set_option maxRecDepth 100000 in
set_option maxHeartbeats 4000000 in
theorem atom_step (i : Nat) (hi : i ≤ ts.length) (hE : ∀ j, i < j → j ≤ ts.length → Row Tryd.prog 13 [vKs ts, vI j] [] (vG (Qx ts 1 j)) []) : Row Tryd.prog 85 [vKs ts, vI i] [] (vG (Qx ts 8 i)) [] := by
  have o := now_row ts i
  have q1 := word_row ts i wTrue
  rw [word_is (by decide)] at q1
  have q2 := word_row ts i wFals
  rw [word_is (by decide)] at q2
  have q3 := word_row ts i wRead
  rw [word_is (by decide)] at q3
  have q4 := sign_row ts (i + 1) sParO
  rw [sign_is (by decide)] at q4
  have q5 := sign_row ts i sParO
  rw [sign_is (by decide)] at q5
  have w1 : IntKind.i64.wrap ((i : Nat) + 1 : Int) = (i : Nat) + 1 := i64i _ (by omega) (by omega)
  rw [Q_eq 8 i (by decide) (by decide) hi]
  unfold bG
  rw [if_neg (by decide), if_neg (by decide), if_neg (by decide)]
  unfold atoG
  by_cases e1 : (nxt ts i).k = 2
  · have hlt := k_lt e1 (by decide)
    rw [if_pos e1]
    have m := rmk_row ts hl i (i + 1) 5 (nxt ts i).n ⟨#[]⟩ [] (by omega) (by omega)
    clear hE
    refine row_of Tryd.func85 rfl rfl (Nat.le_of_ble_eq_true rfl) ?_
    repeat' (first | refine aw_seq ?_ | refine aw_skip ?_ | refine aw_block ?_ | refine aw_exit ?_ | refine aw_cond rfl (fun _ => ?_) (fun hb => absurd hb (by decide)) | refine aw_cond rfl (fun hb => absurd hb (by decide)) (fun _ => ?_) | (refine aw_reg (fun K hK => ?_); simp -implicitDefEqProofs [w1, e1]) | (refine aw_drw mixd (fun K hK => ?_); simp -implicitDefEqProofs [w1, e1]) | refine hK _ ?_ | refine hK _ _ (by rfl) ?_ | (refine ar_call (cp o ?_); simp -implicitDefEqProofs [w1, e1]) | (refine ard_call (dp o ?_); simp -implicitDefEqProofs [w1, e1]) | (refine ar_call (cp m ?_); simp -implicitDefEqProofs [w1, e1]) | (refine ard_call (dp m ?_); simp -implicitDefEqProofs [w1, e1]) | fail)
    refine aw_ret (fin_ret ?_); simp -implicitDefEqProofs [FinP, resV, resT, mk7] <;> try rfl
  rw [if_neg e1]
  by_cases e2 : isK wTrue (nxt ts i) = true
  · have hlt := isK_lt e2
    rw [if_pos e2]
    rw [e2] at q1
    have m := rmk_row ts hl i (i + 1) 6 1 ⟨#[]⟩ [] (by omega) (by omega)
    clear hE e2
    refine row_of Tryd.func85 rfl rfl (Nat.le_of_ble_eq_true rfl) ?_
    repeat' (first | refine aw_seq ?_ | refine aw_skip ?_ | refine aw_block ?_ | refine aw_exit ?_ | refine aw_cond rfl (fun _ => ?_) (fun hb => absurd hb (by decide)) | refine aw_cond rfl (fun hb => absurd hb (by decide)) (fun _ => ?_) | (refine aw_reg (fun K hK => ?_); simp -implicitDefEqProofs [w1, e1]) | (refine aw_drw mixd (fun K hK => ?_); simp -implicitDefEqProofs [w1, e1]) | refine hK _ ?_ | refine hK _ _ (by rfl) ?_ | (refine ar_call (cp o ?_); simp -implicitDefEqProofs [w1, e1]) | (refine ard_call (dp o ?_); simp -implicitDefEqProofs [w1, e1]) | (refine ar_call (cp q1 ?_); simp -implicitDefEqProofs [w1, e1]) | (refine ard_call (dp q1 ?_); simp -implicitDefEqProofs [w1, e1]) | (refine ar_call (cp m ?_); simp -implicitDefEqProofs [w1, e1]) | (refine ard_call (dp m ?_); simp -implicitDefEqProofs [w1, e1]) | fail)
    refine aw_ret (fin_ret ?_); simp -implicitDefEqProofs [FinP, resV, resT, mk7] <;> try rfl
  rw [if_neg e2]
  rw [show isK wTrue (nxt ts i) = false by simpa using e2] at q1
  clear e2
  by_cases e2 : isK wFals (nxt ts i) = true
  · have hlt := isK_lt e2
    rw [if_pos e2]
    rw [e2] at q2
    have m := rmk_row ts hl i (i + 1) 6 0 ⟨#[]⟩ [] (by omega) (by omega)
    clear hE e2
    refine row_of Tryd.func85 rfl rfl (Nat.le_of_ble_eq_true rfl) ?_
    repeat' (first | refine aw_seq ?_ | refine aw_skip ?_ | refine aw_block ?_ | refine aw_exit ?_ | refine aw_cond rfl (fun _ => ?_) (fun hb => absurd hb (by decide)) | refine aw_cond rfl (fun hb => absurd hb (by decide)) (fun _ => ?_) | (refine aw_reg (fun K hK => ?_); simp -implicitDefEqProofs [w1, e1]) | (refine aw_drw mixd (fun K hK => ?_); simp -implicitDefEqProofs [w1, e1]) | refine hK _ ?_ | refine hK _ _ (by rfl) ?_ | (refine ar_call (cp o ?_); simp -implicitDefEqProofs [w1, e1]) | (refine ard_call (dp o ?_); simp -implicitDefEqProofs [w1, e1]) | (refine ar_call (cp q1 ?_); simp -implicitDefEqProofs [w1, e1]) | (refine ard_call (dp q1 ?_); simp -implicitDefEqProofs [w1, e1]) | (refine ar_call (cp q2 ?_); simp -implicitDefEqProofs [w1, e1]) | (refine ard_call (dp q2 ?_); simp -implicitDefEqProofs [w1, e1]) | (refine ar_call (cp m ?_); simp -implicitDefEqProofs [w1, e1]) | (refine ard_call (dp m ?_); simp -implicitDefEqProofs [w1, e1]) | fail)
    refine aw_ret (fin_ret ?_); simp -implicitDefEqProofs [FinP, resV, resT, mk7] <;> try rfl
  rw [if_neg e2]
  rw [show isK wFals (nxt ts i) = false by simpa using e2] at q2
  clear e2
  by_cases e2 : isK wRead (nxt ts i) = true
  · have hlt := isK_lt e2
    rw [if_pos e2]
    rw [e2] at q3
    have m := rmk_row ts hl i (i + 1) 18 0 ⟨#[]⟩ [] (by omega) (by omega)
    clear hE e2
    refine row_of Tryd.func85 rfl rfl (Nat.le_of_ble_eq_true rfl) ?_
    repeat' (first | refine aw_seq ?_ | refine aw_skip ?_ | refine aw_block ?_ | refine aw_exit ?_ | refine aw_cond rfl (fun _ => ?_) (fun hb => absurd hb (by decide)) | refine aw_cond rfl (fun hb => absurd hb (by decide)) (fun _ => ?_) | (refine aw_reg (fun K hK => ?_); simp -implicitDefEqProofs [w1, e1]) | (refine aw_drw mixd (fun K hK => ?_); simp -implicitDefEqProofs [w1, e1]) | refine hK _ ?_ | refine hK _ _ (by rfl) ?_ | (refine ar_call (cp o ?_); simp -implicitDefEqProofs [w1, e1]) | (refine ard_call (dp o ?_); simp -implicitDefEqProofs [w1, e1]) | (refine ar_call (cp q1 ?_); simp -implicitDefEqProofs [w1, e1]) | (refine ard_call (dp q1 ?_); simp -implicitDefEqProofs [w1, e1]) | (refine ar_call (cp q2 ?_); simp -implicitDefEqProofs [w1, e1]) | (refine ard_call (dp q2 ?_); simp -implicitDefEqProofs [w1, e1]) | (refine ar_call (cp q3 ?_); simp -implicitDefEqProofs [w1, e1]) | (refine ard_call (dp q3 ?_); simp -implicitDefEqProofs [w1, e1]) | (refine ar_call (cp m ?_); simp -implicitDefEqProofs [w1, e1]) | (refine ard_call (dp m ?_); simp -implicitDefEqProofs [w1, e1]) | fail)
    refine aw_ret (fin_ret ?_); simp -implicitDefEqProofs [FinP, resV, resT, mk7] <;> try rfl
  rw [if_neg e2]
  rw [show isK wRead (nxt ts i) = false by simpa using e2] at q3
  clear e2
  by_cases e2 : (nxt ts i).k = 1 ∧ isK sParO (nxt ts (i + 1)) = false
  · have hlt := k_lt e2.1 (by decide)
    rw [if_pos e2]
    rw [e2.2] at q4
    have e3 := e2.1
    have m := rmk_row ts hl i (i + 1) 19 0 (nxt ts i).s [] (by omega) (by omega)
    clear hE e2
    refine row_of Tryd.func85 rfl rfl (Nat.le_of_ble_eq_true rfl) ?_
    repeat' (first | refine aw_seq ?_ | refine aw_skip ?_ | refine aw_block ?_ | refine aw_exit ?_ | refine aw_cond rfl (fun _ => ?_) (fun hb => absurd hb (by decide)) | refine aw_cond rfl (fun hb => absurd hb (by decide)) (fun _ => ?_) | (refine aw_reg (fun K hK => ?_); simp -implicitDefEqProofs [w1, e1, e3]) | (refine aw_drw mixd (fun K hK => ?_); simp -implicitDefEqProofs [w1, e1, e3]) | refine hK _ ?_ | refine hK _ _ (by rfl) ?_ | (refine ar_call (cp o ?_); simp -implicitDefEqProofs [w1, e1, e3]) | (refine ard_call (dp o ?_); simp -implicitDefEqProofs [w1, e1, e3]) | (refine ar_call (cp q1 ?_); simp -implicitDefEqProofs [w1, e1, e3]) | (refine ard_call (dp q1 ?_); simp -implicitDefEqProofs [w1, e1, e3]) | (refine ar_call (cp q2 ?_); simp -implicitDefEqProofs [w1, e1, e3]) | (refine ard_call (dp q2 ?_); simp -implicitDefEqProofs [w1, e1, e3]) | (refine ar_call (cp q3 ?_); simp -implicitDefEqProofs [w1, e1, e3]) | (refine ard_call (dp q3 ?_); simp -implicitDefEqProofs [w1, e1, e3]) | (refine ar_call (cp q4 ?_); simp -implicitDefEqProofs [w1, e1, e3]) | (refine ard_call (dp q4 ?_); simp -implicitDefEqProofs [w1, e1, e3]) | (refine ar_call (cp m ?_); simp -implicitDefEqProofs [w1, e1, e3]) | (refine ard_call (dp m ?_); simp -implicitDefEqProofs [w1, e1, e3]) | fail)
    refine aw_ret (fin_ret ?_); simp -implicitDefEqProofs [FinP, resV, resT, mk7] <;> try rfl
  rw [if_neg e2]
  have hc := called_step ts hl i hi hE
  by_cases e3 : (nxt ts i).k = 1
  · rw [show isK sParO (nxt ts (i + 1)) = true by simpa [e3] using e2] at q4
    have e5 : isK sParO (nxt ts i) = false := by unfold isK; rw [e3, show quo sParO = 4 by decide]; rfl
    rw [e5] at q5 ⊢
    rw [if_neg (by decide)]
    obtain ⟨⟨⟨rx, rl⟩, r2, r3⟩, hr⟩ : ∃ r, calG ts (Qx ts 1) i = r := ⟨_, rfl⟩
    rw [hr] at hc ⊢
    clear hE e2 hr e5
    refine row_of Tryd.func85 rfl rfl (Nat.le_of_ble_eq_true rfl) ?_
    repeat' (first | refine aw_seq ?_ | refine aw_skip ?_ | refine aw_block ?_ | refine aw_exit ?_ | refine aw_cond rfl (fun _ => ?_) (fun hb => absurd hb (by decide)) | refine aw_cond rfl (fun hb => absurd hb (by decide)) (fun _ => ?_) | (refine aw_reg (fun K hK => ?_); simp -implicitDefEqProofs [w1, e1, e3]) | (refine aw_drw mixd (fun K hK => ?_); simp -implicitDefEqProofs [w1, e1, e3]) | refine hK _ ?_ | refine hK _ _ (by rfl) ?_ | (refine ar_call (cp o ?_); simp -implicitDefEqProofs [w1, e1, e3]) | (refine ard_call (dp o ?_); simp -implicitDefEqProofs [w1, e1, e3]) | (refine ar_call (cp q1 ?_); simp -implicitDefEqProofs [w1, e1, e3]) | (refine ard_call (dp q1 ?_); simp -implicitDefEqProofs [w1, e1, e3]) | (refine ar_call (cp q2 ?_); simp -implicitDefEqProofs [w1, e1, e3]) | (refine ard_call (dp q2 ?_); simp -implicitDefEqProofs [w1, e1, e3]) | (refine ar_call (cp q3 ?_); simp -implicitDefEqProofs [w1, e1, e3]) | (refine ard_call (dp q3 ?_); simp -implicitDefEqProofs [w1, e1, e3]) | (refine ar_call (cp q4 ?_); simp -implicitDefEqProofs [w1, e1, e3]) | (refine ard_call (dp q4 ?_); simp -implicitDefEqProofs [w1, e1, e3]) | (refine ar_call (cp q5 ?_); simp -implicitDefEqProofs [w1, e1, e3]) | (refine ard_call (dp q5 ?_); simp -implicitDefEqProofs [w1, e1, e3]) | (refine ar_call (cp hc ?_); simp -implicitDefEqProofs [w1, e1, e3]) | (refine ard_call (dp hc ?_); simp -implicitDefEqProofs [w1, e1, e3]) | fail)
    refine aw_ret (fin_ret ?_); simp -implicitDefEqProofs [FinP, resV, resT] <;> try rfl
  clear e2
  by_cases e5 : isK sParO (nxt ts i) = true; rotate_left
  · rw [if_neg e5]
    rw [show isK sParO (nxt ts i) = false by simpa using e5] at q5
    obtain ⟨⟨⟨rx, rl⟩, r2, r3⟩, hr⟩ : ∃ r, calG ts (Qx ts 1) i = r := ⟨_, rfl⟩
    rw [hr] at hc ⊢
    clear hE hr e5
    refine row_of Tryd.func85 rfl rfl (Nat.le_of_ble_eq_true rfl) ?_
    repeat' (first | refine aw_seq ?_ | refine aw_skip ?_ | refine aw_block ?_ | refine aw_exit ?_ | refine aw_cond rfl (fun _ => ?_) (fun hb => absurd hb (by decide)) | refine aw_cond rfl (fun hb => absurd hb (by decide)) (fun _ => ?_) | (refine aw_reg (fun K hK => ?_); simp -implicitDefEqProofs [w1, e1, e3]) | (refine aw_drw mixd (fun K hK => ?_); simp -implicitDefEqProofs [w1, e1, e3]) | refine hK _ ?_ | refine hK _ _ (by rfl) ?_ | (refine ar_call (cp o ?_); simp -implicitDefEqProofs [w1, e1, e3]) | (refine ard_call (dp o ?_); simp -implicitDefEqProofs [w1, e1, e3]) | (refine ar_call (cp q1 ?_); simp -implicitDefEqProofs [w1, e1, e3]) | (refine ard_call (dp q1 ?_); simp -implicitDefEqProofs [w1, e1, e3]) | (refine ar_call (cp q2 ?_); simp -implicitDefEqProofs [w1, e1, e3]) | (refine ard_call (dp q2 ?_); simp -implicitDefEqProofs [w1, e1, e3]) | (refine ar_call (cp q3 ?_); simp -implicitDefEqProofs [w1, e1, e3]) | (refine ard_call (dp q3 ?_); simp -implicitDefEqProofs [w1, e1, e3]) | (refine ar_call (cp q4 ?_); simp -implicitDefEqProofs [w1, e1, e3]) | (refine ard_call (dp q4 ?_); simp -implicitDefEqProofs [w1, e1, e3]) | (refine ar_call (cp q5 ?_); simp -implicitDefEqProofs [w1, e1, e3]) | (refine ard_call (dp q5 ?_); simp -implicitDefEqProofs [w1, e1, e3]) | (refine ar_call (cp hc ?_); simp -implicitDefEqProofs [w1, e1, e3]) | (refine ard_call (dp hc ?_); simp -implicitDefEqProofs [w1, e1, e3]) | fail)
    refine aw_ret (fin_ret ?_); simp -implicitDefEqProofs [FinP, resV, resT] <;> try rfl
  rw [if_pos e5]
  have hlt := isK_lt e5
  rw [e5] at q5
  have hq := hE (i + 1) (by omega) (by omega)
  have hk := Q_ok (ts := ts) 1 (i + 1) (by omega)
  obtain ⟨⟨⟨rx, rl⟩, r2, r3⟩, hr⟩ : ∃ r, Qx ts 1 (i + 1) = r := ⟨_, rfl⟩
  rw [hr] at hq hk ⊢
  by_cases hr3 : r3 = 0; rotate_left
  · rw [if_pos hr3]
    clear hr hE hk e5 hc
    refine row_of Tryd.func85 rfl rfl (Nat.le_of_ble_eq_true rfl) ?_
    repeat' (first | refine aw_seq ?_ | refine aw_skip ?_ | refine aw_block ?_ | refine aw_exit ?_ | refine aw_cond rfl (fun _ => ?_) (fun hb => absurd hb (by decide)) | refine aw_cond rfl (fun hb => absurd hb (by decide)) (fun _ => ?_) | (refine aw_reg (fun K hK => ?_); simp -implicitDefEqProofs [hr3, w1, e1, e3]) | (refine aw_drw mixd (fun K hK => ?_); simp -implicitDefEqProofs [hr3, w1, e1, e3]) | refine hK _ ?_ | refine hK _ _ (by rfl) ?_ | (refine ar_call (cp o ?_); simp -implicitDefEqProofs [hr3, w1, e1, e3]) | (refine ard_call (dp o ?_); simp -implicitDefEqProofs [hr3, w1, e1, e3]) | (refine ar_call (cp q1 ?_); simp -implicitDefEqProofs [hr3, w1, e1, e3]) | (refine ard_call (dp q1 ?_); simp -implicitDefEqProofs [hr3, w1, e1, e3]) | (refine ar_call (cp q2 ?_); simp -implicitDefEqProofs [hr3, w1, e1, e3]) | (refine ard_call (dp q2 ?_); simp -implicitDefEqProofs [hr3, w1, e1, e3]) | (refine ar_call (cp q3 ?_); simp -implicitDefEqProofs [hr3, w1, e1, e3]) | (refine ard_call (dp q3 ?_); simp -implicitDefEqProofs [hr3, w1, e1, e3]) | (refine ar_call (cp q4 ?_); simp -implicitDefEqProofs [hr3, w1, e1, e3]) | (refine ard_call (dp q4 ?_); simp -implicitDefEqProofs [hr3, w1, e1, e3]) | (refine ar_call (cp q5 ?_); simp -implicitDefEqProofs [hr3, w1, e1, e3]) | (refine ard_call (dp q5 ?_); simp -implicitDefEqProofs [hr3, w1, e1, e3]) | (refine ar_call (cp hq ?_); simp -implicitDefEqProofs [hr3, w1, e1, e3]) | (refine ard_call (dp hq ?_); simp -implicitDefEqProofs [hr3, w1, e1, e3]) | fail)
    refine aw_ret (fin_ret ?_); simp -implicitDefEqProofs [FinP, resV, resT] <;> try rfl
  subst hr3
  rw [if_neg (by simp)]
  have hyy := hk.yes rfl
  dsimp only at hyy ⊢
  have q6 := sign_row ts r2 sParS
  rw [sign_is (by decide)] at q6
  have w2 : IntKind.i64.wrap ((r2 : Nat) + 1 : Int) = (r2 : Nat) + 1 := i64i _ (by omega) (by omega)
  by_cases e6 : isK sParS (nxt ts r2) = true; rotate_left
  · have e6 : isK sParS (nxt ts r2) = false := by simpa using e6
    rw [if_pos e6]
    rw [e6] at q6
    have b := bad_row r2
    clear hr hE hk e5 hc e6
    refine row_of Tryd.func85 rfl rfl (Nat.le_of_ble_eq_true rfl) ?_
    repeat' (first | refine aw_seq ?_ | refine aw_skip ?_ | refine aw_block ?_ | refine aw_exit ?_ | refine aw_cond rfl (fun _ => ?_) (fun hb => absurd hb (by decide)) | refine aw_cond rfl (fun hb => absurd hb (by decide)) (fun _ => ?_) | (refine aw_reg (fun K hK => ?_); simp -implicitDefEqProofs [w1, e1, e3]) | (refine aw_drw mixd (fun K hK => ?_); simp -implicitDefEqProofs [w1, e1, e3]) | refine hK _ ?_ | refine hK _ _ (by rfl) ?_ | (refine ar_call (cp o ?_); simp -implicitDefEqProofs [w1, e1, e3]) | (refine ard_call (dp o ?_); simp -implicitDefEqProofs [w1, e1, e3]) | (refine ar_call (cp q1 ?_); simp -implicitDefEqProofs [w1, e1, e3]) | (refine ard_call (dp q1 ?_); simp -implicitDefEqProofs [w1, e1, e3]) | (refine ar_call (cp q2 ?_); simp -implicitDefEqProofs [w1, e1, e3]) | (refine ard_call (dp q2 ?_); simp -implicitDefEqProofs [w1, e1, e3]) | (refine ar_call (cp q3 ?_); simp -implicitDefEqProofs [w1, e1, e3]) | (refine ard_call (dp q3 ?_); simp -implicitDefEqProofs [w1, e1, e3]) | (refine ar_call (cp q4 ?_); simp -implicitDefEqProofs [w1, e1, e3]) | (refine ard_call (dp q4 ?_); simp -implicitDefEqProofs [w1, e1, e3]) | (refine ar_call (cp q5 ?_); simp -implicitDefEqProofs [w1, e1, e3]) | (refine ard_call (dp q5 ?_); simp -implicitDefEqProofs [w1, e1, e3]) | (refine ar_call (cp hq ?_); simp -implicitDefEqProofs [w1, e1, e3]) | (refine ard_call (dp hq ?_); simp -implicitDefEqProofs [w1, e1, e3]) | (refine ar_call (cp q6 ?_); simp -implicitDefEqProofs [w1, e1, e3]) | (refine ard_call (dp q6 ?_); simp -implicitDefEqProofs [w1, e1, e3]) | (refine ar_call (cp b ?_); simp -implicitDefEqProofs [w1, e1, e3]) | (refine ard_call (dp b ?_); simp -implicitDefEqProofs [w1, e1, e3]) | fail)
    refine aw_ret (fin_ret ?_); simp -implicitDefEqProofs [FinP, resV, resT, bad7, z0] <;> try rfl
  rw [if_neg (by simp [e6])]
  rw [e6] at q6
  clear hr hE hk e5 hc e6
  refine row_of Tryd.func85 rfl rfl (Nat.le_of_ble_eq_true rfl) ?_
  repeat' (first | refine aw_seq ?_ | refine aw_skip ?_ | refine aw_block ?_ | refine aw_exit ?_ | refine aw_cond rfl (fun _ => ?_) (fun hb => absurd hb (by decide)) | refine aw_cond rfl (fun hb => absurd hb (by decide)) (fun _ => ?_) | (refine aw_reg (fun K hK => ?_); simp -implicitDefEqProofs [w1, w2, e1, e3]) | (refine aw_drw mixd (fun K hK => ?_); simp -implicitDefEqProofs [w1, w2, e1, e3]) | refine hK _ ?_ | refine hK _ _ (by rfl) ?_ | (refine ar_call (cp o ?_); simp -implicitDefEqProofs [w1, w2, e1, e3]) | (refine ard_call (dp o ?_); simp -implicitDefEqProofs [w1, w2, e1, e3]) | (refine ar_call (cp q1 ?_); simp -implicitDefEqProofs [w1, w2, e1, e3]) | (refine ard_call (dp q1 ?_); simp -implicitDefEqProofs [w1, w2, e1, e3]) | (refine ar_call (cp q2 ?_); simp -implicitDefEqProofs [w1, w2, e1, e3]) | (refine ard_call (dp q2 ?_); simp -implicitDefEqProofs [w1, w2, e1, e3]) | (refine ar_call (cp q3 ?_); simp -implicitDefEqProofs [w1, w2, e1, e3]) | (refine ard_call (dp q3 ?_); simp -implicitDefEqProofs [w1, w2, e1, e3]) | (refine ar_call (cp q4 ?_); simp -implicitDefEqProofs [w1, w2, e1, e3]) | (refine ard_call (dp q4 ?_); simp -implicitDefEqProofs [w1, w2, e1, e3]) | (refine ar_call (cp q5 ?_); simp -implicitDefEqProofs [w1, w2, e1, e3]) | (refine ard_call (dp q5 ?_); simp -implicitDefEqProofs [w1, w2, e1, e3]) | (refine ar_call (cp hq ?_); simp -implicitDefEqProofs [w1, w2, e1, e3]) | (refine ard_call (dp hq ?_); simp -implicitDefEqProofs [w1, w2, e1, e3]) | (refine ar_call (cp q6 ?_); simp -implicitDefEqProofs [w1, w2, e1, e3]) | (refine ard_call (dp q6 ?_); simp -implicitDefEqProofs [w1, w2, e1, e3]) | fail)
  refine aw_ret (fin_ret ?_); simp -implicitDefEqProofs [FinP, resV, resT] <;> try rfl
set_option maxRecDepth 100000 in
set_option maxHeartbeats 4000000 in
theorem all_rows : ∀ (n w i : Nat), 1 ≤ w → w ≤ 8 → i ≤ ts.length → me ts w i < n →
    (w ≤ 6 → Row Tryd.prog 30 [vKs ts, vI i, vI (w : Nat)] [] (vG (Qx ts w i)) []) ∧
    (w = 6 → Row Tryd.prog 50 [vKs ts, vI i] [] (vG (Qx ts 6 i)) []) ∧
    (w = 7 → Row Tryd.prog 74 [vKs ts, vI i] [] (vG (Qx ts 7 i)) []) ∧
    (w = 8 → Row Tryd.prog 85 [vKs ts, vI i] [] (vG (Qx ts 8 i)) []) := by
  intro n
  induction n with
  | zero => intro w i _ _ _ h; omega
  | succ n ih =>
  intro w i hw1 hw8 hi hn
  have hE : ∀ j, i < j → j ≤ ts.length → Row Tryd.prog 13 [vKs ts, vI j] [] (vG (Qx ts 1 j)) [] := fun j h1 h2 =>
    expr_of ts j ((ih 1 j (by omega) (by omega) h2 (by unfold me at hn ⊢; omega)).1 (by omega))
  have hun : w = 6 → Row Tryd.prog 50 [vKs ts, vI i] [] (vG (Qx ts 6 i)) [] := fun h => by
    subst h
    exact un_step ts hl i hi ((ih 7 i (by omega) (by omega) hi (by unfold me at hn ⊢; omega)).2.2.1 rfl) (fun hlt => (ih 6 (i + 1) (by omega) (by omega) (by omega) (by unfold me at hn ⊢; omega)).2.1 rfl)
  refine ⟨fun h => ?_, hun, fun h => ?_, fun h => ?_⟩
  · by_cases h6 : w = 6
    · subst h6
      exact lev6_row ts i (hun rfl)
    · exact lev_step ts hl w hw1 (by omega) i hi (fun j h1 h2 => (ih (w + 1) j (by omega) (by omega) h2 (by unfold me at hn ⊢; omega)).1 (by omega))
  · exact post_step ts hl i hi ((ih 8 i (by omega) (by omega) hi (by unfold me at hn ⊢; omega)).2.2.2 rfl) hE
  · exact atom_step ts hl i hi hE
theorem rexpr_row (i : Nat) (hi : i ≤ ts.length) : Row Tryd.prog 13 [vKs ts, vI i] [] (vG (Qx ts 1 i)) [] :=
  expr_of ts i ((all_rows ts hl _ 1 i (by decide) (by decide) hi (Nat.lt_succ_self _)).1 (by decide))
end
end Go.Proofs.YtlkggpjdaaglmaaDoor.am
end
