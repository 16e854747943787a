import Derived.Test.YthmdllhhmhbhbaaPkD6
section
namespace Go.Proofs.Ythmdllhhmhbhbaa.am
open Go.ChangeShapes Go.WideShapes Go.ChangeAt Go.RowKit
open vt
set_option linter.unusedVariables false
set_option linter.unusedSimpArgs false
set_option maxRecDepth 100000 in
set_option maxHeartbeats 4000000 in
theorem rwithin_row (m : VT) (hm : in64 m) (hsz : m.size ≤ 1000000) (S : Nat) (hS : ∀ d ∈ m.kids, d.size ≤ S) : ∀ (f : Nat) (t : VT) (ins : List Int), in64 t → t.size ≤ 1000000 → InsOk m.kids ins → (m.kids.length - ins.length) * S + t.size ≤ f → Row Try.prog 36 [vT m, vT t, vIs ins] [] (vI (wth m.kids f t ins)) []
  | 0, t, ins, _, _, _, hf => by
    obtain ⟨x, l⟩ := t
    have := Tr.len_size (x := x) (l := l)
    omega
  | f + 1, t, ins, ht, hts, hio, hf => by
    have ih := rwithin_row m hm hsz S hS f
    obtain ⟨mx, ml⟩ := m
    rw [Tr.kids] at hS ih hio hf ⊢
    have hml := Tr.len_size (x := mx) (l := ml)
    obtain ⟨x, l⟩ := t
    have hlen := Tr.len_size (x := x) (l := l)
    have hx := lab_ok ht
    have hil : ins.length ≤ 1000000 := by
      have := pig ml.length ins hio.nd hio.rg
      omega
    unfold wth
    rw [Tr.lab, Tr.kids]
    by_cases hA : (x.k = 1 ∨ x.k = 2) ∧ l.length = 0
    · rw [if_pos hA]
      obtain ⟨h1, h2⟩ := hA
      have h2' : (l.length : Int) = 0 := by omega
      have h2'' : l = [] := List.eq_nil_of_length_eq_zero h2
      clear ih
      rcases h1 with h | h
      · refine row_of Try.func36 rfl rfl (Nat.le_of_ble_eq_true rfl) ?_
        repeat (first | refine aw_seq ?_ | refine aw_skip ?_ | refine aw_block ?_ | refine aw_exit ?_ | refine aw_cond rfl (fun _ => ?_) (fun hb => absurd hb (by decide)) | refine aw_cond rfl (fun hb => absurd hb (by decide)) (fun _ => ?_) | (refine aw_reg (fun K hK => ?_); simp -implicitDefEqProofs [h, h2, h2', h2'']; refine hK _ ?_) | (refine aw_drw mixd (fun K hK => ?_); simp -implicitDefEqProofs [h, h2, h2', h2'']; refine hK _ _ (by rfl) ?_) | fail)
        refine aw_ret (fin_ret ?_); simp -implicitDefEqProofs [FinP, resV, resT] <;> try rfl
      · refine row_of Try.func36 rfl rfl (Nat.le_of_ble_eq_true rfl) ?_
        repeat (first | refine aw_seq ?_ | refine aw_skip ?_ | refine aw_block ?_ | refine aw_exit ?_ | refine aw_cond rfl (fun _ => ?_) (fun hb => absurd hb (by decide)) | refine aw_cond rfl (fun hb => absurd hb (by decide)) (fun _ => ?_) | (refine aw_reg (fun K hK => ?_); simp -implicitDefEqProofs [h, h2, h2', h2'']; refine hK _ ?_) | (refine aw_drw mixd (fun K hK => ?_); simp -implicitDefEqProofs [h, h2, h2', h2'']; refine hK _ _ (by rfl) ?_) | fail)
        refine aw_ret (fin_ret ?_); simp -implicitDefEqProofs [FinP, resV, resT] <;> try rfl
    rw [if_neg hA]
    by_cases h12 : x.k = 1 ∨ x.k = 2
    · have hl0 : ¬ l.length = 0 := fun h => hA ⟨h12, h⟩
      have hl0' : ¬ (l.length : Int) = 0 := by omega
      have hl0'' : ¬ l = [] := fun h => hl0 (by rw [h]; rfl)
      rw [if_neg (by omega), if_pos (.inl (by omega))]
      clear ih
      rcases h12 with h | h
      · refine row_of Try.func36 rfl rfl (Nat.le_of_ble_eq_true rfl) ?_
        repeat (first | refine aw_seq ?_ | refine aw_skip ?_ | refine aw_block ?_ | refine aw_exit ?_ | refine aw_cond rfl (fun _ => ?_) (fun hb => absurd hb (by decide)) | refine aw_cond rfl (fun hb => absurd hb (by decide)) (fun _ => ?_) | (refine aw_reg (fun K hK => ?_); simp -implicitDefEqProofs [h, hl0, hl0', hl0'']; refine hK _ ?_) | (refine aw_drw mixd (fun K hK => ?_); simp -implicitDefEqProofs [h, hl0, hl0', hl0'']; refine hK _ _ (by rfl) ?_) | fail)
        refine aw_ret (fin_ret ?_); simp -implicitDefEqProofs [FinP, resV, resT] <;> try rfl
      · refine row_of Try.func36 rfl rfl (Nat.le_of_ble_eq_true rfl) ?_
        repeat (first | refine aw_seq ?_ | refine aw_skip ?_ | refine aw_block ?_ | refine aw_exit ?_ | refine aw_cond rfl (fun _ => ?_) (fun hb => absurd hb (by decide)) | refine aw_cond rfl (fun hb => absurd hb (by decide)) (fun _ => ?_) | (refine aw_reg (fun K hK => ?_); simp -implicitDefEqProofs [h, hl0, hl0', hl0'']; refine hK _ ?_) | (refine aw_drw mixd (fun K hK => ?_); simp -implicitDefEqProofs [h, hl0, hl0', hl0'']; refine hK _ _ (by rfl) ?_) | fail)
        refine aw_ret (fin_ret ?_); simp -implicitDefEqProofs [FinP, resV, resT] <;> try rfl
    have n1 : ¬ x.k = 1 := fun h => h12 (.inl h)
    have n2 : ¬ x.k = 2 := fun h => h12 (.inr h)
    by_cases h3 : x.k = 3
    · by_cases hB : l.length = 1 ∧ 1 ≤ x.n ∧ x.n ≤ 16; rotate_left
      · rw [if_neg (fun h => hB h.2), if_pos (.inl (by omega))]
        clear ih
        by_cases b1 : l.length = 1
        · have b1' : (l.length : Int) = 1 := by omega
          by_cases b2 : 1 ≤ x.n
          · have b3 : ¬ x.n ≤ 16 := fun h => hB ⟨b1, b2, h⟩
            refine row_of Try.func36 rfl rfl (Nat.le_of_ble_eq_true rfl) ?_
            repeat (first | refine aw_seq ?_ | refine aw_skip ?_ | refine aw_block ?_ | refine aw_exit ?_ | refine aw_cond rfl (fun _ => ?_) (fun hb => absurd hb (by decide)) | refine aw_cond rfl (fun hb => absurd hb (by decide)) (fun _ => ?_) | (refine aw_reg (fun K hK => ?_); simp -implicitDefEqProofs [n1, n2, h3, b1, b1', b2, b3]; refine hK _ ?_) | (refine aw_drw mixd (fun K hK => ?_); simp -implicitDefEqProofs [n1, n2, h3, b1, b1', b2, b3]; refine hK _ _ (by rfl) ?_) | fail)
            refine aw_ret (fin_ret ?_); simp -implicitDefEqProofs [FinP, resV, resT] <;> try rfl
          · refine row_of Try.func36 rfl rfl (Nat.le_of_ble_eq_true rfl) ?_
            repeat (first | refine aw_seq ?_ | refine aw_skip ?_ | refine aw_block ?_ | refine aw_exit ?_ | refine aw_cond rfl (fun _ => ?_) (fun hb => absurd hb (by decide)) | refine aw_cond rfl (fun hb => absurd hb (by decide)) (fun _ => ?_) | (refine aw_reg (fun K hK => ?_); simp -implicitDefEqProofs [n1, n2, h3, b1, b1', b2]; refine hK _ ?_) | (refine aw_drw mixd (fun K hK => ?_); simp -implicitDefEqProofs [n1, n2, h3, b1, b1', b2]; refine hK _ _ (by rfl) ?_) | fail)
            refine aw_ret (fin_ret ?_); simp -implicitDefEqProofs [FinP, resV, resT] <;> try rfl
        · have b1' : ¬ (l.length : Int) = 1 := by omega
          refine row_of Try.func36 rfl rfl (Nat.le_of_ble_eq_true rfl) ?_
          repeat (first | refine aw_seq ?_ | refine aw_skip ?_ | refine aw_block ?_ | refine aw_exit ?_ | refine aw_cond rfl (fun _ => ?_) (fun hb => absurd hb (by decide)) | refine aw_cond rfl (fun hb => absurd hb (by decide)) (fun _ => ?_) | (refine aw_reg (fun K hK => ?_); simp -implicitDefEqProofs [n1, n2, h3, b1, b1']; refine hK _ ?_) | (refine aw_drw mixd (fun K hK => ?_); simp -implicitDefEqProofs [n1, n2, h3, b1, b1']; refine hK _ _ (by rfl) ?_) | fail)
          refine aw_ret (fin_ret ?_); simp -implicitDefEqProofs [FinP, resV, resT] <;> try rfl
      obtain ⟨b1, b2, b3⟩ := hB
      rw [if_pos ⟨h3, b1, b2, b3⟩]
      obtain ⟨⟨ax, al⟩, rfl⟩ : ∃ a, l = [a] := List.length_eq_one_iff.1 b1
      have hsz1 := Tr.size_at (x := x) (l := [.mk ax al]) (i := 0) rfl
      have hr := ih (.mk ax al) ins (kid_ok ht (by simp)) (by omega) hio (by omega)
      have hv := wth_in ml f (.mk ax al) ins
      rw [show [Tr.mk ax al].getD 0 z0T = .mk ax al from rfl]
      obtain ⟨v, hv1⟩ : ∃ v, wth ml f (.mk ax al) ins = v := ⟨_, rfl⟩
      rw [hv1] at hr hv ⊢
      have p0 : 0 ≤ v * x.n := Int.mul_nonneg hv.1 (by omega)
      have p1 : v * x.n ≤ 64 * 16 := Int.mul_le_mul hv.2 b3 (by omega) (by omega)
      have w0 : IntKind.i64.wrap x.n = x.n := i64i _ (by omega) (by omega)
      have w1 : IntKind.i64.wrap (v * x.n) = v * x.n := i64i _ (by omega) (by omega)
      clear ih
      by_cases hb : 64 < v * x.n
      · rw [if_pos hb]
        refine row_of Try.func36 rfl rfl (Nat.le_of_ble_eq_true rfl) ?_
        repeat' (first | refine aw_seq ?_ | refine aw_skip ?_ | refine aw_block ?_ | refine aw_exit ?_ | refine aw_cond rfl (fun _ => ?_) (fun hb => absurd hb (by decide)) | refine aw_cond rfl (fun hb => absurd hb (by decide)) (fun _ => ?_) | (refine aw_reg (fun K hK => ?_); simp -implicitDefEqProofs [n1, n2, h3, b2, b3, w0, w1, hb]) | (refine aw_drw mixd (fun K hK => ?_); simp -implicitDefEqProofs [n1, n2, h3, b2, b3, w0, w1, hb]) | refine hK _ ?_ | refine hK _ _ (by rfl) ?_ | (refine ar_call (cp hr ?_); simp -implicitDefEqProofs [n1, n2, h3, b2, b3, w0, w1, hb]) | (refine ard_call (dp hr ?_); simp -implicitDefEqProofs [n1, n2, h3, b2, b3, w0, w1, hb]) | fail)
        refine aw_ret (fin_ret ?_); simp -implicitDefEqProofs [FinP, resV, resT] <;> try rfl
      · rw [if_neg hb]
        refine row_of Try.func36 rfl rfl (Nat.le_of_ble_eq_true rfl) ?_
        repeat' (first | refine aw_seq ?_ | refine aw_skip ?_ | refine aw_block ?_ | refine aw_exit ?_ | refine aw_cond rfl (fun _ => ?_) (fun hb => absurd hb (by decide)) | refine aw_cond rfl (fun hb => absurd hb (by decide)) (fun _ => ?_) | (refine aw_reg (fun K hK => ?_); simp -implicitDefEqProofs [n1, n2, h3, b2, b3, w0, w1, hb]) | (refine aw_drw mixd (fun K hK => ?_); simp -implicitDefEqProofs [n1, n2, h3, b2, b3, w0, w1, hb]) | refine hK _ ?_ | refine hK _ _ (by rfl) ?_ | (refine ar_call (cp hr ?_); simp -implicitDefEqProofs [n1, n2, h3, b2, b3, w0, w1, hb]) | (refine ard_call (dp hr ?_); simp -implicitDefEqProofs [n1, n2, h3, b2, b3, w0, w1, hb]) | fail)
        refine aw_ret (fin_ret ?_); simp -implicitDefEqProofs [FinP, resV, resT] <;> try rfl
    rw [if_neg (fun h => h3 h.1)]
    by_cases h4 : x.k = 4; rotate_left
    · rw [if_pos (.inl h4)]
      clear ih
      refine row_of Try.func36 rfl rfl (Nat.le_of_ble_eq_true rfl) ?_
      repeat (first | refine aw_seq ?_ | refine aw_skip ?_ | refine aw_block ?_ | refine aw_exit ?_ | refine aw_cond rfl (fun _ => ?_) (fun hb => absurd hb (by decide)) | refine aw_cond rfl (fun hb => absurd hb (by decide)) (fun _ => ?_) | (refine aw_reg (fun K hK => ?_); simp -implicitDefEqProofs [n1, n2, h3, h4]; refine hK _ ?_) | (refine aw_drw mixd (fun K hK => ?_); simp -implicitDefEqProofs [n1, n2, h3, h4]; refine hK _ _ (by rfl) ?_) | fail)
      refine aw_ret (fin_ret ?_); simp -implicitDefEqProofs [FinP, resV, resT] <;> try rfl
    by_cases hl0 : l.length = 0; rotate_left
    · have hl0' : ¬ (l.length : Int) = 0 := by omega
      have hl0'' : ¬ l = [] := fun h => hl0 (by rw [h]; rfl)
      rw [if_pos (.inr (.inl hl0))]
      clear ih
      refine row_of Try.func36 rfl rfl (Nat.le_of_ble_eq_true rfl) ?_
      repeat (first | refine aw_seq ?_ | refine aw_skip ?_ | refine aw_block ?_ | refine aw_exit ?_ | refine aw_cond rfl (fun _ => ?_) (fun hb => absurd hb (by decide)) | refine aw_cond rfl (fun hb => absurd hb (by decide)) (fun _ => ?_) | (refine aw_reg (fun K hK => ?_); simp -implicitDefEqProofs [n1, n2, h3, h4, hl0, hl0', hl0'']; refine hK _ ?_) | (refine aw_drw mixd (fun K hK => ?_); simp -implicitDefEqProofs [n1, n2, h3, h4, hl0, hl0', hl0'']; refine hK _ _ (by rfl) ?_) | fail)
      refine aw_ret (fin_ret ?_); simp -implicitDefEqProofs [FinP, resV, resT] <;> try rfl
    obtain rfl : l = [] := List.eq_nil_of_length_eq_zero hl0
    by_cases hn0 : x.n < 0
    · rw [if_pos (.inr (.inr (.inl hn0)))]
      clear ih
      refine row_of Try.func36 rfl rfl (Nat.le_of_ble_eq_true rfl) ?_
      repeat (first | refine aw_seq ?_ | refine aw_skip ?_ | refine aw_block ?_ | refine aw_exit ?_ | refine aw_cond rfl (fun _ => ?_) (fun hb => absurd hb (by decide)) | refine aw_cond rfl (fun hb => absurd hb (by decide)) (fun _ => ?_) | (refine aw_reg (fun K hK => ?_); simp -implicitDefEqProofs [n1, n2, h3, h4, hn0]; refine hK _ ?_) | (refine aw_drw mixd (fun K hK => ?_); simp -implicitDefEqProofs [n1, n2, h3, h4, hn0]; refine hK _ _ (by rfl) ?_) | fail)
      refine aw_ret (fin_ret ?_); simp -implicitDefEqProofs [FinP, resV, resT] <;> try rfl
    by_cases hn1 : (ml.length : Int) ≤ x.n
    · rw [if_pos (.inr (.inr (.inr hn1)))]
      clear ih
      refine row_of Try.func36 rfl rfl (Nat.le_of_ble_eq_true rfl) ?_
      repeat (first | refine aw_seq ?_ | refine aw_skip ?_ | refine aw_block ?_ | refine aw_exit ?_ | refine aw_cond rfl (fun _ => ?_) (fun hb => absurd hb (by decide)) | refine aw_cond rfl (fun hb => absurd hb (by decide)) (fun _ => ?_) | (refine aw_reg (fun K hK => ?_); simp -implicitDefEqProofs [n1, n2, h3, h4, hn0, hn1]; refine hK _ ?_) | (refine aw_drw mixd (fun K hK => ?_); simp -implicitDefEqProofs [n1, n2, h3, h4, hn0, hn1]; refine hK _ _ (by rfl) ?_) | fail)
      refine aw_ret (fin_ret ?_); simp -implicitDefEqProofs [FinP, resV, resT] <;> try rfl
    rw [if_neg (fun h => h.elim (fun h => h h4) (fun h => h.elim (fun h => h rfl) (fun h => h.elim hn0 hn1)))]
    obtain ⟨j, hj⟩ : ∃ j : Nat, x.n = j := ⟨x.n.toNat, by omega⟩
    have hjl : j < ml.length := by omega
    have w0 : IntKind.i64.wrap (j : Nat) = (j : Nat) := i64i _ (by omega) (by omega)
    obtain ⟨⟨y, p⟩, hd⟩ : ∃ d, ml[j]? = some d := ⟨_, List.getElem?_eq_getElem hjl⟩
    have hd' := (List.getElem?_eq_some_iff.1 hd).2
    have hdm : ml.getD x.n.toNat z0T = .mk y p := by rw [hj]; simp [List.getD, hd]
    rw [hdm, Tr.kids]
    have hdS := hS _ (List.mem_of_getElem? hd)
    have hdz := Tr.size_at (x := mx) hd
    have hdi := kid_ok hm (List.mem_of_getElem? hd)
    have hplen := Tr.len_size (x := y) (l := p)
    have hsh := rshaped_row (.mk y p) (by omega)
    have hn0' : ¬ ((j : Nat) : Int) < 0 := by omega
    have hn1' : ¬ (ml.length : Int) ≤ (j : Nat) := by omega
    rw [hj]
    clear hdm
    by_cases hin : (j : Int) ∈ ins
    · rw [if_pos hin]
      clear ih hsh
      refine row_of Try.func36 rfl rfl (Nat.le_of_ble_eq_true rfl) ?_
      repeat (first | refine aw_seq ?_ | refine aw_skip ?_ | refine aw_block ?_ | refine aw_exit ?_ | refine aw_cond rfl (fun _ => ?_) (fun hb => absurd hb (by decide)) | refine aw_cond rfl (fun hb => absurd hb (by decide)) (fun _ => ?_) | (refine aw_reg (fun K hK => ?_); simp -implicitDefEqProofs [n1, n2, h3, h4, hj, hn0', hn1', w0]; refine hK _ ?_) | (refine aw_drw mixd (fun K hK => ?_); simp -implicitDefEqProofs [n1, n2, h3, h4, hj, hn0', hn1', w0]; refine hK _ _ (by rfl) ?_) | fail)
      refine aw_lp (ι := Nat) (fun k => mkSt [(2, vIs ins), (8, vI (j : Nat)), (9, vI (k : Nat))] []) (fun k => k ≤ ins.length ∧ (j : Int) ∉ ins.take k) (fun k => ins.length - k) 0 ⟨Nat.zero_le _, by simp⟩ (cov_intro [] (by simp -implicitDefEqProofs) (by simp -implicitDefEqProofs) (by decide) rfl (by simp)) (fun Z hI k hk => ?_)
      obtain ⟨hk, hz⟩ := hk
      by_cases hkl : k < ins.length; rotate_left
      · have : k = ins.length := by omega
        subst this
        rw [List.take_length] at hz
        exact absurd hin hz
      obtain ⟨z, ha⟩ : ∃ a, ins[k]? = some a := ⟨_, List.getElem?_eq_getElem hkl⟩
      have ha' := (List.getElem?_eq_some_iff.1 ha).2
      have w2 : IntKind.i64.wrap ((k : Nat) + 1 : Int) = (k : Nat) + 1 := i64i _ (by omega) (by omega)
      by_cases hp : z = (j : Int)
      · repeat (first | refine aw_seq ?_ | refine aw_skip ?_ | refine aw_block ?_ | refine aw_exit ?_ | refine aw_cond rfl (fun _ => ?_) (fun hb => absurd hb (by decide)) | refine aw_cond rfl (fun hb => absurd hb (by decide)) (fun _ => ?_) | (refine aw_reg (fun K hK => ?_); simp -implicitDefEqProofs [hkl, ha, ha', hp]; refine hK _ ?_) | (refine aw_drw mixd (fun K hK => ?_); simp -implicitDefEqProofs [hkl, ha, ha', hp]; refine hK _ _ (by rfl) ?_) | fail)
        refine aw_ret (fin_ret ?_); simp -implicitDefEqProofs [FinP, resV, resT] <;> try rfl
      · repeat (first | refine aw_seq ?_ | refine aw_skip ?_ | refine aw_block ?_ | refine aw_exit ?_ | refine aw_cond rfl (fun _ => ?_) (fun hb => absurd hb (by decide)) | refine aw_cond rfl (fun hb => absurd hb (by decide)) (fun _ => ?_) | (refine aw_reg (fun K hK => ?_); simp -implicitDefEqProofs [hkl, ha, ha', hp, w2]; refine hK _ ?_) | (refine aw_drw mixd (fun K hK => ?_); simp -implicitDefEqProofs [hkl, ha, ha', hp, w2]; refine hK _ _ (by rfl) ?_) | fail)
        refine ⟨k + 1, ⟨by omega, by rw [List.take_add_one, ha]; simp [hz]; exact fun h => hp h.symm⟩, (by dsimp only; omega), ?_⟩
        rw [hI]; exact cov_intro [] (by simp -implicitDefEqProofs) (by simp -implicitDefEqProofs) (by decide) rfl (by simp)
    rw [if_neg hin]
    obtain ⟨hio2, hil2⟩ := hio.add (z := (j : Int)) (by omega) (by omega) hin
    have hil3 : (ins ++ [(j : Int)]).length = ins.length + 1 := by simp
    have hrow : ∀ (k : Nat) a, p[k]? = some a → partB a = true → ∃ ax qx ql, a = .mk ax [.mk qx ql] ∧ Row Try.prog 36 [vT (.mk mx ml), vT (.mk qx ql), vIs (ins ++ [(j : Int)])] [] (vI (wth ml f (.mk qx ql) (ins ++ [(j : Int)]))) [] := fun k a ha hp => by
      obtain ⟨ax, al⟩ := a
      have hp1 : al.length = 1 := by unfold partB at hp; rw [Bool.and_eq_true] at hp; exact of_decide_eq_true hp.2
      obtain ⟨⟨qx, ql⟩, rfl⟩ : ∃ q, al = [q] := List.length_eq_one_iff.1 hp1
      have s1 := Tr.size_at (x := y) ha
      have s2 := Tr.size_at (x := ax) (l := [.mk qx ql]) (i := 0) rfl
      refine ⟨ax, qx, ql, rfl, ih _ _ (kid_ok (kid_ok hdi (List.mem_of_getElem? ha)) (by simp)) (by omega) hio2 ?_⟩
      rw [hil3]
      exact fuel_less hf hil2 (by omega) (by omega)
    clear ih
    obtain ⟨W, hW⟩ : ∃ W : VT → Int, W = fun q => wth ml f (q.kids.getD 0 z0T) (ins ++ [(j : Int)]) := ⟨_, rfl⟩
    have hWq : ∀ ax qx ql, wth ml f (.mk qx ql) (ins ++ [(j : Int)]) = W (.mk ax [.mk qx ql]) := fun ax qx ql => by rw [hW]; rfl
    have hwb : ∀ q, 0 ≤ W q ∧ W q ≤ 64 := fun q => by rw [hW]; exact wth_in ml f _ _
    rw [← hW]
    have hrow : ∀ (k : Nat) a, p[k]? = some a → partB a = true → ∃ ax qx ql, a = .mk ax [.mk qx ql] ∧ Row Try.prog 36 [vT (.mk mx ml), vT (.mk qx ql), vIs (ins ++ [(j : Int)])] [] (vI (W a)) [] := fun k a ha hp => by
      obtain ⟨ax, qx, ql, rfl, h⟩ := hrow k a ha hp
      rw [hWq ax] at h
      exact ⟨ax, qx, ql, rfl, h⟩
    clear hW hWq
    refine row_of Try.func36 rfl rfl (Nat.le_of_ble_eq_true rfl) ?_
    repeat (first | refine aw_seq ?_ | refine aw_skip ?_ | refine aw_block ?_ | refine aw_exit ?_ | refine aw_cond rfl (fun _ => ?_) (fun hb => absurd hb (by decide)) | refine aw_cond rfl (fun hb => absurd hb (by decide)) (fun _ => ?_) | (refine aw_reg (fun K hK => ?_); simp -implicitDefEqProofs [n1, n2, h3, h4, hj, hn0', hn1', w0]; refine hK _ ?_) | (refine aw_drw mixd (fun K hK => ?_); simp -implicitDefEqProofs [n1, n2, h3, h4, hj, hn0', hn1', w0]; refine hK _ _ (by rfl) ?_) | fail)
    refine aw_lp (ι := Nat) (fun k => mkSt [(2, vIs ins), (3, .v (.c (.ptr 0 0))), (8, vI (j : Nat)), (9, vI (k : Nat))] [some (.box (ta (.mk mx ml)))]) (fun k => k ≤ ins.length) (fun k => ins.length - k) 0 (Nat.zero_le _) (cov_intro [0] (by simp -implicitDefEqProofs) (by simp -implicitDefEqProofs) (by decide) rfl (by simp)) (fun Z hI k hk => ?_)
    by_cases hkl : k < ins.length
    · obtain ⟨z, ha⟩ : ∃ a, ins[k]? = some a := ⟨_, List.getElem?_eq_getElem hkl⟩
      have ha' := (List.getElem?_eq_some_iff.1 ha).2
      have w2 : IntKind.i64.wrap ((k : Nat) + 1 : Int) = (k : Nat) + 1 := i64i _ (by omega) (by omega)
      have hp : ¬ z = (j : Int) := fun e => hin (e ▸ List.mem_of_getElem? ha)
      repeat (first | refine aw_seq ?_ | refine aw_skip ?_ | refine aw_block ?_ | refine aw_exit ?_ | refine aw_cond rfl (fun _ => ?_) (fun hb => absurd hb (by decide)) | refine aw_cond rfl (fun hb => absurd hb (by decide)) (fun _ => ?_) | (refine aw_reg (fun K hK => ?_); simp -implicitDefEqProofs [hkl, ha, ha', hp, w2]; refine hK _ ?_) | (refine aw_drw mixd (fun K hK => ?_); simp -implicitDefEqProofs [hkl, ha, ha', hp, w2]; refine hK _ _ (by rfl) ?_) | fail)
      refine ⟨k + 1, by omega, (by dsimp only; omega), ?_⟩
      rw [hI]; exact cov_intro [0] (by simp -implicitDefEqProofs) (by simp -implicitDefEqProofs) (by decide) rfl (by simp)
    have : k = ins.length := by omega
    subst this
    clear hI
    cases hsb : shpB (.mk y p) with
    | false =>
      rw [if_neg (by simp)]
      rw [hsb] at hsh
      repeat' (first | refine aw_seq ?_ | refine aw_skip ?_ | refine aw_block ?_ | refine aw_exit ?_ | refine aw_cond rfl (fun _ => ?_) (fun hb => absurd hb (by decide)) | refine aw_cond rfl (fun hb => absurd hb (by decide)) (fun _ => ?_) | (refine aw_reg (fun K hK => ?_); simp -implicitDefEqProofs [hjl, hd, hd', hkl, w0]) | (refine aw_drw mixd (fun K hK => ?_); simp -implicitDefEqProofs [hjl, hd, hd', hkl, w0]) | refine hK _ ?_ | refine hK _ _ (by rfl) ?_ | (refine ar_call (cp hsh ?_); simp -implicitDefEqProofs [hjl, hd, hd', hkl, w0]) | (refine ard_call (dp hsh ?_); simp -implicitDefEqProofs [hjl, hd, hd', hkl, w0]) | fail)
      refine aw_ret (fin_ret ?_); simp -implicitDefEqProofs [FinP, resV, resT] <;> try rfl
    | true =>
      rw [if_pos rfl]
      rw [hsb] at hsh
      have hall : ∀ k a, p[k]? = some a → partB a = true := fun k a ha => by
        unfold shpB at hsb
        rw [Bool.and_eq_true] at hsb
        exact List.all_eq_true.1 hsb.2 a (List.mem_of_getElem? ha)
      obtain ⟨R, hR⟩ : ∃ R, sumG (p.map W) 0 = R := ⟨_, rfl⟩
      rw [hR]
      repeat' (first | refine aw_seq ?_ | refine aw_skip ?_ | refine aw_block ?_ | refine aw_exit ?_ | refine aw_cond rfl (fun _ => ?_) (fun hb => absurd hb (by decide)) | refine aw_cond rfl (fun hb => absurd hb (by decide)) (fun _ => ?_) | (refine aw_reg (fun K hK => ?_); simp -implicitDefEqProofs [hjl, hd, hd', hkl, w0]) | (refine aw_drw mixd (fun K hK => ?_); simp -implicitDefEqProofs [hjl, hd, hd', hkl, w0]) | refine hK _ ?_ | refine hK _ _ (by rfl) ?_ | (refine ar_call (cp hsh ?_); simp -implicitDefEqProofs [hjl, hd, hd', hkl, w0]) | (refine ard_call (dp hsh ?_); simp -implicitDefEqProofs [hjl, hd, hd', hkl, w0]) | fail)
      refine aw_lp (ι := Nat × Int) (fun q => mkSt [(2, vIs ins), (3, .v (.c (.ptr 0 0))), (8, vI (j : Nat)), (10, .v (.c (.ptr 1 0))), (11, vI q.2), (12, vI (q.1 : Nat))] [some (.box (ta (.mk mx ml))), some (.box (ta (.mk y p)))]) (fun q => q.1 ≤ p.length ∧ (0 ≤ q.2 ∧ q.2 ≤ 64) ∧ sumG ((p.map W).drop q.1) q.2 = R) (fun q => p.length - q.1) (0, 0) ⟨Nat.zero_le _, ⟨by omega, by omega⟩, hR⟩ (cov_intro [0, 10] (by simp -implicitDefEqProofs) (by simp -implicitDefEqProofs) (by decide) rfl (by simp)) (fun Z hI q hq => ?_)
      obtain ⟨k, s⟩ := q
      obtain ⟨hk, ⟨s0, s1⟩, hz⟩ := hq
      dsimp only at hk s0 s1 hz ⊢
      by_cases hkp : k < p.length; rotate_left
      · have : k = p.length := by omega
        subst this
        rw [List.drop_of_length_le (by rw [List.length_map]; exact Nat.le_refl _)] at hz
        have hz : s = R := hz
        subst hz
        repeat (first | refine aw_seq ?_ | refine aw_skip ?_ | refine aw_block ?_ | refine aw_exit ?_ | refine aw_cond rfl (fun _ => ?_) (fun hb => absurd hb (by decide)) | refine aw_cond rfl (fun hb => absurd hb (by decide)) (fun _ => ?_) | (refine aw_reg (fun K hK => ?_); simp -implicitDefEqProofs; refine hK _ ?_) | (refine aw_drw mixd (fun K hK => ?_); simp -implicitDefEqProofs; refine hK _ _ (by rfl) ?_) | fail)
        refine aw_ret (fin_ret ?_); simp -implicitDefEqProofs [FinP, resV, resT] <;> try rfl
      obtain ⟨a, ha⟩ : ∃ a, p[k]? = some a := ⟨_, List.getElem?_eq_getElem hkp⟩
      have ha' := (List.getElem?_eq_some_iff.1 ha).2
      obtain ⟨ax, qx, ql, rfl, hr⟩ := hrow k a ha (hall k a ha)
      have hv := hwb (.mk ax [.mk qx ql])
      have hdrop : (p.map W).drop k = W (.mk ax [.mk qx ql]) :: (p.map W).drop (k + 1) := by
        rw [List.drop_eq_getElem_cons (by rw [List.length_map]; exact hkp), List.getElem_map, ha']
      rw [hdrop] at hz
      unfold sumG at hz
      obtain ⟨v, hv1⟩ : ∃ v, W (.mk ax [.mk qx ql]) = v := ⟨_, rfl⟩
      rw [hv1] at hr hv hz
      have w2 : IntKind.i64.wrap ((k : Nat) + 1 : Int) = (k : Nat) + 1 := i64i _ (by omega) (by omega)
      have w3 : IntKind.i64.wrap (s + v) = s + v := i64i _ (by omega) (by omega)
      have b1 : (ins.length + 1) * 8 ≤ 140737488355328 := by omega
      have b2 : ins.length + 1 ≤ 140737488355328 := by omega
      have b3 : ins.length * 8 ≤ 140737488355328 := by omega
      have b4 : ins.length ≤ 140737488355328 := by omega
      clear hdrop hv1 hrow hall
      by_cases hv0 : v = 0
      · rw [if_pos (.inl hv0)] at hz
        subst hz
        subst hv0
        repeat' (first | refine aw_seq ?_ | refine aw_skip ?_ | refine aw_block ?_ | refine aw_exit ?_ | refine aw_cond rfl (fun _ => ?_) (fun hb => absurd hb (by decide)) | refine aw_cond rfl (fun hb => absurd hb (by decide)) (fun _ => ?_) | (refine aw_reg (fun K hK => ?_); simp -implicitDefEqProofs [hkp, ha, ha', w2, w3, b1, b2, b3, b4]) | (refine aw_drw mixd (fun K hK => ?_); simp -implicitDefEqProofs [hkp, ha, ha', w2, w3, b1, b2, b3, b4]) | refine hK _ ?_ | refine hK _ _ (by rfl) ?_ | (refine ar_call (cp hr ?_); simp -implicitDefEqProofs [hkp, ha, ha', w2, w3, b1, b2, b3, b4]) | (refine ard_call (dp hr ?_); simp -implicitDefEqProofs [hkp, ha, ha', w2, w3, b1, b2, b3, b4]) | fail)
        refine aw_ret (fin_ret ?_); simp -implicitDefEqProofs [FinP, resV, resT] <;> try rfl
      by_cases hv6 : 64 < s + v
      · rw [if_pos (.inr hv6)] at hz
        subst hz
        repeat' (first | refine aw_seq ?_ | refine aw_skip ?_ | refine aw_block ?_ | refine aw_exit ?_ | refine aw_cond rfl (fun _ => ?_) (fun hb => absurd hb (by decide)) | refine aw_cond rfl (fun hb => absurd hb (by decide)) (fun _ => ?_) | (refine aw_reg (fun K hK => ?_); simp -implicitDefEqProofs [hkp, ha, ha', w2, w3, b1, b2, b3, b4, hv0, hv6]) | (refine aw_drw mixd (fun K hK => ?_); simp -implicitDefEqProofs [hkp, ha, ha', w2, w3, b1, b2, b3, b4, hv0, hv6]) | refine hK _ ?_ | refine hK _ _ (by rfl) ?_ | (refine ar_call (cp hr ?_); simp -implicitDefEqProofs [hkp, ha, ha', w2, w3, b1, b2, b3, b4, hv0, hv6]) | (refine ard_call (dp hr ?_); simp -implicitDefEqProofs [hkp, ha, ha', w2, w3, b1, b2, b3, b4, hv0, hv6]) | fail)
        refine aw_ret (fin_ret ?_); simp -implicitDefEqProofs [FinP, resV, resT] <;> try rfl
      rw [if_neg (fun h => h.elim hv0 hv6)] at hz
      repeat' (first | refine aw_seq ?_ | refine aw_skip ?_ | refine aw_block ?_ | refine aw_exit ?_ | refine aw_cond rfl (fun _ => ?_) (fun hb => absurd hb (by decide)) | refine aw_cond rfl (fun hb => absurd hb (by decide)) (fun _ => ?_) | (refine aw_reg (fun K hK => ?_); simp -implicitDefEqProofs [hkp, ha, ha', w2, w3, b1, b2, b3, b4, hv0, hv6]) | (refine aw_drw mixd (fun K hK => ?_); simp -implicitDefEqProofs [hkp, ha, ha', w2, w3, b1, b2, b3, b4, hv0, hv6]) | refine hK _ ?_ | refine hK _ _ (by rfl) ?_ | (refine ar_call (cp hr ?_); simp -implicitDefEqProofs [hkp, ha, ha', w2, w3, b1, b2, b3, b4, hv0, hv6]) | (refine ard_call (dp hr ?_); simp -implicitDefEqProofs [hkp, ha, ha', w2, w3, b1, b2, b3, b4, hv0, hv6]) | fail)
      refine ⟨(k + 1, s + v), ⟨by dsimp only; omega, ⟨by dsimp only; omega, by dsimp only; omega⟩, hz⟩, (by dsimp only; omega), ?_⟩
      rw [hI]; exact cov_intro [0, 1] (by simp -implicitDefEqProofs) (by simp -implicitDefEqProofs) (by decide) rfl (by simp)
end Go.Proofs.Ythmdllhhmhbhbaa.am
end
section
namespace Go.Proofs.Ythmdllhhmhbhbaa.vt
open Go.Proofs.Ythmdllhhmhbhbaa.am
set_option linter.unusedVariables false
noncomputable def cels (m t : VT) : Int := wth m.kids (m.kids.length * m.size + t.size) t []
noncomputable def frT (t : VT) : Bool := Tr.fold (fun x _ bs => !decide (x.k = 4) && bs.all id) t
theorem frT_mk (x : Lab) (l : List VT) : frT (.mk x l) = (!decide (x.k = 4) && l.all frT) := by
  unfold frT; rw [Tr.fold_mk, List.all_map]; rfl
noncomputable def nmlT (t : VT) : VT := Tr.fold (fun x _ bs => .mk ⟨x.k, x.n, ⟨#[]⟩, 0, 0⟩ bs) t
theorem nmlT_mk (x : Lab) (l : List VT) : nmlT (.mk x l) = .mk ⟨x.k, x.n, ⟨#[]⟩, 0, 0⟩ (l.map nmlT) := Tr.fold_mk _ x l
theorem nmlT_size (t : VT) : (nmlT t).size = t.size := by
  induction t using Tr.ind with
  | h x l ih =>
  rw [nmlT_mk, Tr.size_mk, Tr.size_mk, List.map_map]
  congr 2
  exact List.map_congr_left (fun y hy => ih y hy)
noncomputable def rootT (t : VT) : VT := Tr.fold (fun x l bs => if (x.k = 12 ∨ x.k = 13) ∧ 0 < l.length then bs.getD 0 (.mk x l) else .mk x l) t
theorem rootT_mk (x : Lab) (l : List VT) : rootT (.mk x l) = if (x.k = 12 ∨ x.k = 13) ∧ 0 < l.length then (l.map rootT).getD 0 (.mk x l) else .mk x l := Tr.fold_mk _ x l
end Go.Proofs.Ythmdllhhmhbhbaa.vt
namespace Go.Proofs.Ythmdllhhmhbhbaa.vt
open Go.Proofs.Ythmdllhhmhbhbaa.am
def isT (t : VT) (k : Int) : Bool := decide (t.lab.k = k) && decide (t.kids.length = 0)
def tyT (k : Int) : VT := .mk ⟨k, 0, ⟨#[]⟩, 0, 0⟩ []
def litT (t : VT) : VT := if t.lab.k = 5 then tyT 1 else if t.lab.k = 6 then tyT 2 else z0T
def shaE (x : Lab) (n : Nat) : Bool :=
  if x.k = 5 ∨ x.k = 7 ∨ x.k = 8 ∨ x.k = 9 ∨ x.k = 18 then decide (n = 0)
  else if x.k = 6 then decide (n = 0) && (decide (x.n = 0) || decide (x.n = 1))
  else if x.k = 11 then decide (n = 1) && (decide (x.n = 1) || decide (x.n = 2))
  else if x.k = 10 then decide (n = 2) && decide (1 ≤ x.n) && decide (x.n ≤ 13)
  else if x.k = 13 then decide (n = 1)
  else if x.k = 12 then decide (n = 2)
  else if x.k = 14 ∨ x.k = 15 then decide (1 ≤ n)
  else decide (x.k = 16) || decide (x.k = 17)
end Go.Proofs.Ythmdllhhmhbhbaa.vt
namespace Go.Proofs.Ythmdllhhmhbhbaa.vt
open Go.Proofs.Ythmdllhhmhbhbaa.am
def fldA (m : VT) (n : Int) : Option VT :=
  if n < 0 then none else
  match m.kids[n.toNat / 64]? with
  | none => none
  | some d => if d.lab.k = 30 then (match d.kids[n.toNat % 64]? with | none => none | some q => if partB q = true then q.kids[0]? else none) else none
def twoT (op : Int) (a b : VT) : VT :=
  if ((op = 1 ∨ op = 2) ∧ (isT a 2 && isT b 2) = true) ∨ ((op = 3 ∨ op = 4) ∧ ((isT a 1 && isT b 1) = true ∨ (isT a 2 && isT b 2) = true)) then tyT 2
  else if (op = 5 ∨ op = 6 ∨ op = 7 ∨ op = 8) ∧ (isT a 1 && isT b 1) = true then tyT 2
  else if 9 ≤ op ∧ (isT a 1 && isT b 1) = true then tyT 1
  else z0T
end Go.Proofs.Ythmdllhhmhbhbaa.vt
namespace Go.Proofs.Ythmdllhhmhbhbaa.vt
open Go.Proofs.Ythmdllhhmhbhbaa.am
def hasD (d : VT) (kind : Int) : Bool :=
  if kind = 31 then decide (d.kids.length = 1) && !decide ((litT (d.kids.getD 0 z0T)).lab.k = 0)
  else if kind = 32 then decide (d.kids.length = 1)
  else if kind = 33 then decide (d.kids.length = 3)
  else shpB d
def hasB (m : VT) (n kind : Int) : Bool :=
  if n < 0 then false else
  match m.kids[n.toNat]? with
  | none => false
  | some d => decide (d.lab.k = kind) && hasD d kind
theorem litT_k (t : VT) : (litT t).lab.k = if t.lab.k = 5 then 1 else if t.lab.k = 6 then 2 else 0 := by
  unfold litT tyT
  split
  · rfl
  · split
    · rfl
    · rfl
end Go.Proofs.Ythmdllhhmhbhbaa.vt
end
section
namespace Go.Proofs.Ythmdllhhmhbhbaa.am
open Go.ChangeShapes Go.WideShapes Go.ChangeAt Go.RowKit
open vt
set_option linter.unusedVariables false
set_option linter.unusedSimpArgs false
theorem kid_size {m d : VT} (h : d ∈ m.kids) : d.size ≤ m.size := by
  obtain ⟨x, l⟩ := m
  obtain ⟨i, hi⟩ := List.mem_iff_getElem?.1 h
  have := Tr.size_at (x := x) (l := l) hi
  omega
set_option maxRecDepth 100000 in
set_option maxHeartbeats 4000000 in
theorem rcells_row (m t : VT) (hm : in64 m) (hsz : m.size ≤ 1000000) (ht : in64 t) (hts : t.size ≤ 1000000) : Row Try.prog 27 [vT m, vT t] [] (vI (cels m t)) [] := by
  have h := rwithin_row m hm hsz m.size (fun d hd => kid_size hd) (m.kids.length * m.size + t.size) t [] ht hts (InsOk.nil _) (by simp)
  have e : wth m.kids (m.kids.length * m.size + t.size) t [] = cels m t := rfl
  rw [e] at h
  clear e
  obtain ⟨c, hc⟩ : ∃ c, cels m t = c := ⟨_, rfl⟩
  rw [hc] at h ⊢
  clear hc
  obtain ⟨mx, ml⟩ := m
  obtain ⟨x, l⟩ := t
  refine row_of Try.func27 rfl rfl (Nat.le_of_ble_eq_true rfl) ?_
  repeat' (first | refine aw_seq ?_ | refine aw_skip ?_ | refine aw_block ?_ | refine aw_exit ?_ | refine aw_cond rfl (fun _ => ?_) (fun hb => absurd hb (by decide)) | refine aw_cond rfl (fun hb => absurd hb (by decide)) (fun _ => ?_) | (refine aw_reg (fun K hK => ?_); simp -implicitDefEqProofs) | (refine aw_drw mixd (fun K hK => ?_); simp -implicitDefEqProofs) | refine hK _ ?_ | refine hK _ _ (by rfl) ?_ | (refine ar_call (cp h ?_); simp -implicitDefEqProofs) | (refine ard_call (dp h ?_); simp -implicitDefEqProofs) | fail)
  refine aw_ret (fin_ret ?_); simp -implicitDefEqProofs [FinP, resV, resT] <;> try rfl
set_option maxRecDepth 100000 in
set_option maxHeartbeats 4000000 in
theorem rfree_row (t : VT) : t.size ≤ 1000000 → Row Try.prog 41 [vT t] [] (vB (frT t)) [] := by
  induction t using Tr.ind with
  | h x l ih =>
  intro hsz
  have hlen := Tr.len_size (x := x) (l := l)
  rw [frT_mk]
  by_cases h4 : x.k = 4
  · rw [show (!decide (x.k = 4) && l.all frT) = false by simp [h4]]
    clear ih
    refine row_of Try.func41 rfl rfl (Nat.le_of_ble_eq_true rfl) ?_
    repeat (first | refine aw_seq ?_ | refine aw_skip ?_ | refine aw_block ?_ | refine aw_exit ?_ | refine aw_cond rfl (fun _ => ?_) (fun hb => absurd hb (by decide)) | refine aw_cond rfl (fun hb => absurd hb (by decide)) (fun _ => ?_) | (refine aw_reg (fun K hK => ?_); simp -implicitDefEqProofs [h4]; refine hK _ ?_) | (refine aw_drw mixd (fun K hK => ?_); simp -implicitDefEqProofs [h4]; refine hK _ _ (by rfl) ?_) | fail)
    refine aw_ret (fin_ret ?_); simp -implicitDefEqProofs [FinP, resV, resT] <;> try rfl
  rw [show (!decide (x.k = 4) && l.all frT) = l.all frT by simp [h4]]
  refine row_of Try.func41 rfl rfl (Nat.le_of_ble_eq_true rfl) ?_
  repeat (first | refine aw_seq ?_ | refine aw_skip ?_ | refine aw_block ?_ | refine aw_exit ?_ | refine aw_cond rfl (fun _ => ?_) (fun hb => absurd hb (by decide)) | refine aw_cond rfl (fun hb => absurd hb (by decide)) (fun _ => ?_) | (refine aw_reg (fun K hK => ?_); simp -implicitDefEqProofs [h4]; refine hK _ ?_) | (refine aw_drw mixd (fun K hK => ?_); simp -implicitDefEqProofs [h4]; refine hK _ _ (by rfl) ?_) | fail)
  refine aw_lp (ι := Nat) (fun k => mkSt [(1, .v (.c (.ptr 0 0))), (3, vI (k : Nat))] [some (.box (ta (.mk x l)))]) (fun k => k ≤ l.length ∧ (l.take k).all frT = true) (fun k => l.length - k) 0 ⟨Nat.zero_le _, by simp⟩ (cov_intro [0] (by simp -implicitDefEqProofs) (by simp -implicitDefEqProofs) (by decide) rfl (by simp)) (fun Z hI k hk => ?_)
  obtain ⟨hk, hz⟩ := hk
  by_cases hkl : k < l.length; rotate_left
  · have : k = l.length := by omega
    subst this
    rw [List.take_length] at hz
    repeat (first | refine aw_seq ?_ | refine aw_skip ?_ | refine aw_block ?_ | refine aw_exit ?_ | refine aw_cond rfl (fun _ => ?_) (fun hb => absurd hb (by decide)) | refine aw_cond rfl (fun hb => absurd hb (by decide)) (fun _ => ?_) | (refine aw_reg (fun K hK => ?_); simp -implicitDefEqProofs; refine hK _ ?_) | (refine aw_drw mixd (fun K hK => ?_); simp -implicitDefEqProofs; refine hK _ _ (by rfl) ?_) | fail)
    refine aw_ret (fin_ret ?_); simp -implicitDefEqProofs [FinP, resV, resT, hz] <;> try rfl
  obtain ⟨⟨ax, al⟩, ha⟩ : ∃ a, l[k]? = some a := ⟨_, List.getElem?_eq_getElem hkl⟩
  have ha' := (List.getElem?_eq_some_iff.1 ha).2
  have hsz1 := Tr.size_at (x := x) ha
  have hc := ih _ (List.mem_of_getElem? ha) (by omega)
  have w2 : IntKind.i64.wrap ((k : Nat) + 1 : Int) = (k : Nat) + 1 := i64i _ (by omega) (by omega)
  by_cases hp : frT (.mk ax al) = true
  · rw [hp] at hc
    repeat' (first | refine aw_seq ?_ | refine aw_skip ?_ | refine aw_block ?_ | refine aw_exit ?_ | refine aw_cond rfl (fun _ => ?_) (fun hb => absurd hb (by decide)) | refine aw_cond rfl (fun hb => absurd hb (by decide)) (fun _ => ?_) | (refine aw_reg (fun K hK => ?_); simp -implicitDefEqProofs [hkl, ha, ha', w2]) | (refine aw_drw mixd (fun K hK => ?_); simp -implicitDefEqProofs [hkl, ha, ha', w2]) | refine hK _ ?_ | refine hK _ _ (by rfl) ?_ | (refine ar_call (cp hc ?_); simp -implicitDefEqProofs [hkl, ha, ha', w2]) | (refine ard_call (dp hc ?_); simp -implicitDefEqProofs [hkl, ha, ha', w2]) | fail)
    refine ⟨k + 1, ⟨by omega, by rw [List.take_add_one, ha, Option.toList_some, List.all_append, hz]; simp [hp]⟩, (by dsimp only; omega), ?_⟩
    rw [hI]; exact cov_intro [0] (by simp -implicitDefEqProofs) (by simp -implicitDefEqProofs) (by decide) rfl (by simp)
  · have hp : frT (.mk ax al) = false := by simpa using hp
    rw [hp] at hc
    have e : l.all frT = false := by
      rw [List.all_eq_false]; exact ⟨_, List.mem_of_getElem? ha, by rw [hp]; simp⟩
    repeat' (first | refine aw_seq ?_ | refine aw_skip ?_ | refine aw_block ?_ | refine aw_exit ?_ | refine aw_cond rfl (fun _ => ?_) (fun hb => absurd hb (by decide)) | refine aw_cond rfl (fun hb => absurd hb (by decide)) (fun _ => ?_) | (refine aw_reg (fun K hK => ?_); simp -implicitDefEqProofs [hkl, ha, ha', w2]) | (refine aw_drw mixd (fun K hK => ?_); simp -implicitDefEqProofs [hkl, ha, ha', w2]) | refine hK _ ?_ | refine hK _ _ (by rfl) ?_ | (refine ar_call (cp hc ?_); simp -implicitDefEqProofs [hkl, ha, ha', w2]) | (refine ard_call (dp hc ?_); simp -implicitDefEqProofs [hkl, ha, ha', w2]) | fail)
    refine aw_ret (fin_ret ?_); simp -implicitDefEqProofs [FinP, resV, resT, e] <;> try rfl
set_option maxRecDepth 100000 in
set_option maxHeartbeats 4000000 in
theorem rplain_row (m t : VT) (hm : in64 m) (hsz : m.size ≤ 1000000) (ht : in64 t) (hts : t.size ≤ 1000000) : Row Try.prog 34 [vT m, vT t] [] (vB (decide (0 < cels m t) && frT t)) [] := by
  have h1 := rcells_row m t hm hsz ht hts
  have h2 := rfree_row t hts
  obtain ⟨c, hc⟩ : ∃ c, cels m t = c := ⟨_, rfl⟩
  obtain ⟨b, hb⟩ : ∃ b, frT t = b := ⟨_, rfl⟩
  rw [hc] at h1 ⊢
  rw [hb] at h2 ⊢
  clear hc hb
  obtain ⟨mx, ml⟩ := m
  obtain ⟨x, l⟩ := t
  by_cases h0 : 0 < c
  · refine row_of Try.func34 rfl rfl (Nat.le_of_ble_eq_true rfl) ?_
    repeat' (first | refine aw_seq ?_ | refine aw_skip ?_ | refine aw_block ?_ | refine aw_exit ?_ | refine aw_cond rfl (fun _ => ?_) (fun hb => absurd hb (by decide)) | refine aw_cond rfl (fun hb => absurd hb (by decide)) (fun _ => ?_) | (refine aw_reg (fun K hK => ?_); simp -implicitDefEqProofs [h0]) | (refine aw_drw mixd (fun K hK => ?_); simp -implicitDefEqProofs [h0]) | refine hK _ ?_ | refine hK _ _ (by rfl) ?_ | (refine ar_call (cp h1 ?_); simp -implicitDefEqProofs [h0]) | (refine ard_call (dp h1 ?_); simp -implicitDefEqProofs [h0]) | (refine ar_call (cp h2 ?_); simp -implicitDefEqProofs [h0]) | (refine ard_call (dp h2 ?_); simp -implicitDefEqProofs [h0]) | fail)
    refine aw_ret (fin_ret ?_); simp -implicitDefEqProofs [FinP, resV, resT, h0] <;> try rfl
  · refine row_of Try.func34 rfl rfl (Nat.le_of_ble_eq_true rfl) ?_
    repeat' (first | refine aw_seq ?_ | refine aw_skip ?_ | refine aw_block ?_ | refine aw_exit ?_ | refine aw_cond rfl (fun _ => ?_) (fun hb => absurd hb (by decide)) | refine aw_cond rfl (fun hb => absurd hb (by decide)) (fun _ => ?_) | (refine aw_reg (fun K hK => ?_); simp -implicitDefEqProofs [h0]) | (refine aw_drw mixd (fun K hK => ?_); simp -implicitDefEqProofs [h0]) | refine hK _ ?_ | refine hK _ _ (by rfl) ?_ | (refine ar_call (cp h1 ?_); simp -implicitDefEqProofs [h0]) | (refine ard_call (dp h1 ?_); simp -implicitDefEqProofs [h0]) | (refine ar_call (cp h2 ?_); simp -implicitDefEqProofs [h0]) | (refine ard_call (dp h2 ?_); simp -implicitDefEqProofs [h0]) | fail)
    refine aw_ret (fin_ret ?_); simp -implicitDefEqProofs [FinP, resV, resT, h0] <;> try rfl
set_option maxRecDepth 100000 in
set_option maxHeartbeats 4000000 in
theorem rroot_row (t : VT) : t.size ≤ 1000000 → Row Try.prog 46 [vT t] [] (vT (rootT t)) [] := by
  induction t using Tr.ind with
  | h x l ih =>
  intro hsz
  have hlen := Tr.len_size (x := x) (l := l)
  rw [rootT_mk]
  by_cases h1 : (x.k = 12 ∨ x.k = 13) ∧ 0 < l.length
  · rw [if_pos h1]
    obtain ⟨hk, h0⟩ := h1
    cases l with
    | nil => simp at h0
    | cons a r =>
      have hsz1 := Tr.size_at (x := x) (l := a :: r) (i := 0) rfl
      have hc := ih a (by simp) (by omega)
      simp only [List.map_cons, List.getD_cons_zero]
      obtain ⟨⟨bx, bl⟩, hb⟩ : ∃ b, rootT a = b := ⟨_, rfl⟩
      rw [hb] at hc ⊢
      obtain ⟨ax, al⟩ := a
      have hp : (0 : Int) < (r.length : Int) + 1 := by omega
      clear ih hb
      rcases hk with h | h
      · refine row_of Try.func46 rfl rfl (Nat.le_of_ble_eq_true rfl) ?_
        repeat' (first | refine aw_seq ?_ | refine aw_skip ?_ | refine aw_block ?_ | refine aw_exit ?_ | refine aw_cond rfl (fun _ => ?_) (fun hb => absurd hb (by decide)) | refine aw_cond rfl (fun hb => absurd hb (by decide)) (fun _ => ?_) | (refine aw_reg (fun K hK => ?_); simp -implicitDefEqProofs [h, hp]) | (refine aw_drw mixd (fun K hK => ?_); simp -implicitDefEqProofs [h, hp]) | refine hK _ ?_ | refine hK _ _ (by rfl) ?_ | (refine ar_call (cp hc ?_); simp -implicitDefEqProofs [h, hp]) | (refine ard_call (dp hc ?_); simp -implicitDefEqProofs [h, hp]) | fail)
        refine aw_ret (fin_ret ?_); simp -implicitDefEqProofs [FinP, resV, resT] <;> try rfl
      · refine row_of Try.func46 rfl rfl (Nat.le_of_ble_eq_true rfl) ?_
        repeat' (first | refine aw_seq ?_ | refine aw_skip ?_ | refine aw_block ?_ | refine aw_exit ?_ | refine aw_cond rfl (fun _ => ?_) (fun hb => absurd hb (by decide)) | refine aw_cond rfl (fun hb => absurd hb (by decide)) (fun _ => ?_) | (refine aw_reg (fun K hK => ?_); simp -implicitDefEqProofs [h, hp]) | (refine aw_drw mixd (fun K hK => ?_); simp -implicitDefEqProofs [h, hp]) | refine hK _ ?_ | refine hK _ _ (by rfl) ?_ | (refine ar_call (cp hc ?_); simp -implicitDefEqProofs [h, hp]) | (refine ard_call (dp hc ?_); simp -implicitDefEqProofs [h, hp]) | fail)
        refine aw_ret (fin_ret ?_); simp -implicitDefEqProofs [FinP, resV, resT] <;> try rfl
  · rw [if_neg h1]
    clear ih
    by_cases hk : x.k = 12 ∨ x.k = 13
    · have h0 : l = [] := by cases l with
        | nil => rfl
        | cons a r => exact absurd ⟨hk, by simp⟩ h1
      subst h0
      rcases hk with h | h
      · refine row_of Try.func46 rfl rfl (Nat.le_of_ble_eq_true rfl) ?_
        repeat (first | refine aw_seq ?_ | refine aw_skip ?_ | refine aw_block ?_ | refine aw_exit ?_ | refine aw_cond rfl (fun _ => ?_) (fun hb => absurd hb (by decide)) | refine aw_cond rfl (fun hb => absurd hb (by decide)) (fun _ => ?_) | (refine aw_reg (fun K hK => ?_); simp -implicitDefEqProofs [h]; refine hK _ ?_) | (refine aw_drw mixd (fun K hK => ?_); simp -implicitDefEqProofs [h]; refine hK _ _ (by rfl) ?_) | fail)
        refine aw_ret (fin_ret ?_); simp -implicitDefEqProofs [FinP, resV, resT, h] <;> try rfl
      · refine row_of Try.func46 rfl rfl (Nat.le_of_ble_eq_true rfl) ?_
        repeat (first | refine aw_seq ?_ | refine aw_skip ?_ | refine aw_block ?_ | refine aw_exit ?_ | refine aw_cond rfl (fun _ => ?_) (fun hb => absurd hb (by decide)) | refine aw_cond rfl (fun hb => absurd hb (by decide)) (fun _ => ?_) | (refine aw_reg (fun K hK => ?_); simp -implicitDefEqProofs [h]; refine hK _ ?_) | (refine aw_drw mixd (fun K hK => ?_); simp -implicitDefEqProofs [h]; refine hK _ _ (by rfl) ?_) | fail)
        refine aw_ret (fin_ret ?_); simp -implicitDefEqProofs [FinP, resV, resT, h] <;> try rfl
    · have n1 : ¬ x.k = 12 := fun h => hk (.inl h)
      have n2 : ¬ x.k = 13 := fun h => hk (.inr h)
      refine row_of Try.func46 rfl rfl (Nat.le_of_ble_eq_true rfl) ?_
      repeat (first | refine aw_seq ?_ | refine aw_skip ?_ | refine aw_block ?_ | refine aw_exit ?_ | refine aw_cond rfl (fun _ => ?_) (fun hb => absurd hb (by decide)) | refine aw_cond rfl (fun hb => absurd hb (by decide)) (fun _ => ?_) | (refine aw_reg (fun K hK => ?_); simp -implicitDefEqProofs [n1, n2]; refine hK _ ?_) | (refine aw_drw mixd (fun K hK => ?_); simp -implicitDefEqProofs [n1, n2]; refine hK _ _ (by rfl) ?_) | fail)
      refine aw_ret (fin_ret ?_); simp -implicitDefEqProofs [FinP, resV, resT] <;> try rfl
end Go.Proofs.Ythmdllhhmhbhbaa.am
end
section
namespace Go.Proofs.Ythmdllhhmhbhbaa.am
open Go.ChangeShapes Go.WideShapes Go.ChangeAt Go.RowKit
open vt
set_option linter.unusedVariables false
set_option linter.unusedSimpArgs false
set_option maxRecDepth 100000 in
set_option maxHeartbeats 4000000 in
theorem rnml_row (t : VT) : t.size ≤ 1000000 → Row Try.prog 29 [vT t] [] (vT (nmlT t)) [] := by
  induction t using Tr.ind with
  | h x l ih =>
  intro hsz
  have hlen := Tr.len_size (x := x) (l := l)
  rw [nmlT_mk]
  refine row_of Try.func29 rfl rfl (Nat.le_of_ble_eq_true rfl) ?_
  repeat (first | refine aw_seq ?_ | refine aw_skip ?_ | refine aw_block ?_ | refine aw_exit ?_ | refine aw_cond rfl (fun _ => ?_) (fun hb => absurd hb (by decide)) | refine aw_cond rfl (fun hb => absurd hb (by decide)) (fun _ => ?_) | (refine aw_reg (fun K hK => ?_); simp -implicitDefEqProofs; refine hK _ ?_) | (refine aw_drw mixd (fun K hK => ?_); simp -implicitDefEqProofs; refine hK _ _ (by rfl) ?_) | fail)
  refine aw_nilc 7 3 [.pv (I x.k), .pv (I x.n), .pv (Sx ⟨#[]⟩), .pv .nilS, .pv (I 0), .pv (I 0)] 24 6 (by simp) (by simp) (by simp) ?_
  refine aw_lp (ι := Nat) (fun k => mkSt [(1, .v (.c (.ptr 0 0))), (2, .v (.c (.ptr 1 0))), (3, .v (.c (.ptr 2 0))), (4, vI (k : Nat))] [some (.box (ta (.mk x l))), some (.box (ta (.mk ⟨0, 0, ⟨#[]⟩, 0, 0⟩ []))), some (.box [.pv (I x.k), .pv (I x.n), .pv (Sx ⟨#[]⟩), .row 3 6 (((l.take k).map nmlT).map tc), .pv (I 0), .pv (I 0)]), some (.row 24 6)]) (fun k => k ≤ l.length) (fun k => l.length - k) 0 (Nat.zero_le _) (by unfold St.nilc; exact cov_intro [0, 1, 7, 10] (by simp -implicitDefEqProofs) (by simp -implicitDefEqProofs) (by decide) rfl (by simp)) (fun Z hI k hk => ?_)
  by_cases hkl : k < l.length; rotate_left
  · have : k = l.length := by omega
    subst this
    rw [List.take_length]
    repeat (first | refine aw_seq ?_ | refine aw_skip ?_ | refine aw_block ?_ | refine aw_exit ?_ | refine aw_cond rfl (fun _ => ?_) (fun hb => absurd hb (by decide)) | refine aw_cond rfl (fun hb => absurd hb (by decide)) (fun _ => ?_) | (refine aw_reg (fun K hK => ?_); simp -implicitDefEqProofs; refine hK _ ?_) | (refine aw_drw mixd (fun K hK => ?_); simp -implicitDefEqProofs; refine hK _ _ (by rfl) ?_) | fail)
    refine aw_ret (fin_ret ?_); simp -implicitDefEqProofs [FinP, resV, resT] <;> try rfl
  obtain ⟨⟨ax, al⟩, ha⟩ : ∃ a, l[k]? = some a := ⟨_, List.getElem?_eq_getElem hkl⟩
  have ha' := (List.getElem?_eq_some_iff.1 ha).2
  have hsz1 := Tr.size_at (x := x) ha
  have hc := ih _ (List.mem_of_getElem? ha) (by omega)
  have w2 : IntKind.i64.wrap ((k : Nat) + 1 : Int) = (k : Nat) + 1 := i64i _ (by omega) (by omega)
  have hs : (l.take (k + 1)).map nmlT = (l.take k).map nmlT ++ [nmlT (.mk ax al)] := by rw [List.take_add_one, ha]; simp
  obtain ⟨L, hL⟩ : ∃ L, (l.take k).map nmlT = L := ⟨_, rfl⟩
  have hLl : L.length = k := by rw [← hL, List.length_map, List.length_take]; omega
  rw [hL] at hs ⊢
  obtain ⟨⟨bx, bl⟩, hb⟩ : ∃ b, nmlT (.mk ax al) = b := ⟨_, rfl⟩
  rw [hb] at hc hs
  have b1 : (k + 1) * 72 ≤ 140737488355328 := by omega
  have b2 : k + 1 ≤ 140737488355328 := by omega
  repeat' (first | refine aw_seq ?_ | refine aw_skip ?_ | refine aw_block ?_ | refine aw_exit ?_ | refine aw_cond rfl (fun _ => ?_) (fun hb => absurd hb (by decide)) | refine aw_cond rfl (fun hb => absurd hb (by decide)) (fun _ => ?_) | (refine aw_reg (fun K hK => ?_); simp -implicitDefEqProofs [hkl, ha, ha', hLl, b1, b2, w2]) | (refine aw_drw mixd (fun K hK => ?_); simp -implicitDefEqProofs [hkl, ha, ha', hLl, b1, b2, w2]) | refine hK _ ?_ | refine hK _ _ (by rfl) ?_ | (refine ar_call (cp hc ?_); simp -implicitDefEqProofs [hkl, ha, ha', hLl, b1, b2, w2]) | (refine ard_call (dp hc ?_); simp -implicitDefEqProofs [hkl, ha, ha', hLl, b1, b2, w2]) | fail)
  refine ⟨k + 1, by omega, (by dsimp only; omega), ?_⟩
  rw [hI, hs]; exact cov_intro [0, 1, 2, 81] (by simp -implicitDefEqProofs) (by simp -implicitDefEqProofs) (by decide) rfl (by simp)
end Go.Proofs.Ythmdllhhmhbhbaa.am
end
