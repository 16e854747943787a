/-
  Layer 14: the document's In, Outer, Raise.
-/
import Derived.Test.YtjmjillfclfkgaaVtShi
import Derived.Test.YtjmjillfclfkgaaTd
import Derived.IntWalk
namespace Go.Proofs.Ytjmjillfclfkgaa.am
open Go.ChangeShapes Go.WideShapes Go.ChangeAt Go.RowKit
open vt
set_option linter.unusedVariables false
set_option linter.unusedSimpArgs false

theorem vI_ren (z : Int) (ρ : Nat → Nat) : (vI z).ren ρ = vI z := rfl

set_option maxRecDepth 100000 in
set_option maxHeartbeats 4000000 in
theorem outer_row (x : Lab) (l : List VT) (d : Int) (h : d ≤ x.n → IntKind.i64.wrap (x.n - d) = x.n - d) : Row Try.prog 51 [vT (.mk x l), vI d] [] (vI (outr x.n d)) [] := by
  refine row_of Try.func51 rfl rfl (Nat.le_of_ble_eq_true rfl) ?_
  refine aw_seq ?_; refine aw_reg (fun K hK => ?_); simp -implicitDefEqProofs [ta_mk]; refine hK _ ?_
  refine aw_seq ?_; refine aw_seq ?_; refine aw_reg (fun K hK => ?_); simp -implicitDefEqProofs; refine hK _ ?_
  refine aw_cond rfl (fun hb => ?_) (fun hb => ?_)
  · have hd : x.n < d := by simpa using hb
    refine aw_seq ?_; refine aw_reg (fun K hK => ?_); simp -implicitDefEqProofs; refine hK _ ?_
    refine aw_ret (fin_ret ?_); simp -implicitDefEqProofs [FinP, resV, resT, outr, hd] <;> try rfl
  · have hd : ¬ x.n < d := by simpa using hb
    have h := h (by omega)
    refine aw_skip ?_
    refine aw_seq ?_; refine aw_reg (fun K hK => ?_); simp -implicitDefEqProofs [h]; refine hK _ ?_
    refine aw_ret (fin_ret ?_); simp -implicitDefEqProofs [FinP, resV, resT, outr, hd] <;> try rfl

set_option maxRecDepth 100000 in
set_option maxHeartbeats 4000000 in
theorem rin_row (x : Lab) (l : List VT) (i : Int) (hl : l.length ≤ 1000000) : Row Try.prog 39 [vT (.mk x l), vI i] [] (vI (inn x l i)) [] := by
  refine row_of Try.func39 rfl rfl (Nat.le_of_ble_eq_true rfl) ?_
  refine aw_seq ?_; refine aw_reg (fun K hK => ?_); simp -implicitDefEqProofs [ta_mk]; refine hK _ ?_
  refine aw_seq ?_; refine aw_seq ?_
  by_cases h0 : i < 0
  · refine aw_reg (fun K hK => ?_); simp -implicitDefEqProofs [h0]; refine hK _ ?_
    refine aw_cond rfl (fun _ => ?_) (fun hb => by simp at hb)
    refine aw_seq ?_; refine aw_reg (fun K hK => ?_); simp -implicitDefEqProofs; refine hK _ ?_
    refine aw_ret (fin_ret ?_); simp -implicitDefEqProofs [FinP, resV, resT, inn, h0] <;> try rfl
  by_cases h1 : (l.length : Int) ≤ i
  · refine aw_reg (fun K hK => ?_); simp -implicitDefEqProofs [h0, h1]; refine hK _ ?_
    refine aw_cond rfl (fun _ => ?_) (fun hb => by simp at hb)
    refine aw_seq ?_; refine aw_reg (fun K hK => ?_); simp -implicitDefEqProofs; refine hK _ ?_
    refine aw_ret (fin_ret ?_); simp -implicitDefEqProofs [FinP, resV, resT, inn, h1] <;> try rfl
  refine aw_reg (fun K hK => ?_); simp -implicitDefEqProofs [h0, h1]; refine hK _ ?_
  refine aw_cond rfl (fun hb => by simp at hb) (fun _ => ?_)
  refine aw_skip ?_
  obtain ⟨j, rfl⟩ : ∃ j : Nat, i = j := ⟨i.toNat, by omega⟩
  have e0 : ¬ (j : Int) < 0 := by omega
  have e1 : ¬ l.length ≤ j := by omega
  refine aw_seq ?_; refine aw_seq ?_; refine aw_reg (fun K hK => ?_); simp -implicitDefEqProofs; refine hK _ ?_
  refine aw_cond rfl (fun hb => ?_) (fun hb => ?_)
  · have hk29 : x.k = 29 := by simpa using hb
    refine aw_seq ?_; refine aw_reg (fun K hK => ?_); simp -implicitDefEqProofs; refine hK _ ?_
    refine aw_seq ?_; refine aw_seq ?_; refine aw_reg (fun K hK => ?_); simp -implicitDefEqProofs; refine hK _ ?_
    refine aw_block ?_
    refine aw_lp (ι := Nat) (fun k => mkSt [(1, vI j), (2, .v (.c (.ptr 0 0))), (5, vI (brC l k : Nat)), (6, vI k)] [some (.box (ta (.mk x l)))]) (fun k => k ≤ j) (fun k => j - k) 0 (Nat.zero_le _) (cov_intro [0] (by simp -implicitDefEqProofs [ta_mk, brC_zero]) (by simp -implicitDefEqProofs [ta_mk, brC_zero]) (by decide) rfl (by simp)) (fun I hI k hk => ?_)
    refine aw_seq ?_; refine aw_seq ?_; refine aw_reg (fun K hK => ?_); simp -implicitDefEqProofs; refine hK _ ?_
    refine aw_cond rfl (fun hb => ?_) (fun hb => ?_)
    · refine aw_skip ?_
      have hlt : k < j := by simpa using hb
      have hkl : k < l.length := by omega
      obtain ⟨y, hy⟩ : ∃ y, l[k]? = some y := ⟨_, List.getElem?_eq_getElem hkl⟩
      have hs := brC_succ hy
      obtain ⟨yx, yl⟩ := y
      have hc := brC_le l k
      refine aw_seq ?_; refine aw_block ?_; refine aw_seq ?_
      have w1 : IntKind.i64.wrap ((brC l k : Nat) + 1 : Int) = (brC l k : Nat) + 1 := i64i _ (by omega) (by omega)
      have w2 : IntKind.i64.wrap ((k : Nat) + 1 : Int) = (k : Nat) + 1 := i64i _ (by omega) (by omega)
      by_cases h20 : yx.k = 20
      · refine aw_reg (fun K hK => ?_); simp -implicitDefEqProofs [ta_mk, hy, tc_mk, h20]; refine hK _ ?_
        refine aw_cond rfl (fun _ => ?_) (fun hb => by simp at hb)
        refine aw_reg (fun K hK => ?_); simp -implicitDefEqProofs [w1]; refine hK _ ?_
        refine aw_reg (fun K hK => ?_); simp -implicitDefEqProofs [w2]; refine hK _ ?_
        refine ⟨k + 1, by omega, (by dsimp only; omega), ?_⟩; rw [hI]; exact cov_intro [0] (by simp -implicitDefEqProofs [ta_mk, hs, brB, Tr.lab, h20]) (by simp -implicitDefEqProofs [ta_mk, hs, brB, Tr.lab, h20]) (by decide) rfl (by simp)
      · by_cases h21 : yx.k = 21
        · refine aw_reg (fun K hK => ?_); simp -implicitDefEqProofs [ta_mk, hy, tc_mk, h20, h21]; refine hK _ ?_
          refine aw_cond rfl (fun _ => ?_) (fun hb => by simp at hb)
          refine aw_reg (fun K hK => ?_); simp -implicitDefEqProofs [w1]; refine hK _ ?_
          refine aw_reg (fun K hK => ?_); simp -implicitDefEqProofs [w2]; refine hK _ ?_
          refine ⟨k + 1, by omega, (by dsimp only; omega), ?_⟩; rw [hI]; exact cov_intro [0] (by simp -implicitDefEqProofs [ta_mk, hs, brB, Tr.lab, h21]) (by simp -implicitDefEqProofs [ta_mk, hs, brB, Tr.lab, h21]) (by decide) rfl (by simp)
        · refine aw_reg (fun K hK => ?_); simp -implicitDefEqProofs [ta_mk, hy, tc_mk, h20, h21]; refine hK _ ?_
          refine aw_cond rfl (fun hb => by simp at hb) (fun _ => ?_)
          refine aw_skip ?_
          refine aw_reg (fun K hK => ?_); simp -implicitDefEqProofs [w2]; refine hK _ ?_
          refine ⟨k + 1, by omega, (by dsimp only; omega), ?_⟩; rw [hI]; exact cov_intro [0] (by simp -implicitDefEqProofs [ta_mk, hs, brB, Tr.lab, h20, h21]) (by simp -implicitDefEqProofs [ta_mk, hs, brB, Tr.lab, h20, h21]) (by decide) rfl (by simp)
    · refine aw_exit ?_
      have hkj : k = j := by have : ¬ k < j := by simpa using hb
                             omega
      subst hkj
      refine aw_seq ?_; refine aw_reg (fun K hK => ?_); simp -implicitDefEqProofs; refine hK _ ?_
      refine aw_ret (fin_ret ?_); simp -implicitDefEqProofs [FinP, resV, resT, inn, e0, e1, hk29] <;> try rfl
  have hk29 : ¬ x.k = 29 := by simpa using hb
  refine aw_skip ?_
  refine aw_seq ?_; refine aw_seq ?_
  by_cases h2 : (j : Int) = 2
  · have hj2 : j = 2 := by omega
    subst hj2
    by_cases h25 : x.k = 25
    · refine aw_reg (fun K hK => ?_); simp -implicitDefEqProofs [h25]; refine hK _ ?_
      refine aw_cond rfl (fun _ => ?_) (fun hb => by simp at hb)
      refine aw_seq ?_; refine aw_reg (fun K hK => ?_); simp -implicitDefEqProofs; refine hK _ ?_
      have e2 : ¬ (l.length : Int) ≤ 2 := by omega
      refine aw_ret (fin_ret ?_); simp -implicitDefEqProofs [FinP, resV, resT, inn, e2, hk29, h25] <;> try rfl
    refine aw_reg (fun K hK => ?_); simp -implicitDefEqProofs [h25]; refine hK _ ?_
    refine aw_cond rfl (fun hb => by simp at hb) (fun _ => ?_)
    refine aw_skip ?_
    refine aw_seq ?_; refine aw_seq ?_
    by_cases h33 : x.k = 33
    · refine aw_reg (fun K hK => ?_); simp -implicitDefEqProofs [h33]; refine hK _ ?_
      refine aw_cond rfl (fun _ => ?_) (fun hb => by simp at hb)
      cases l with
      | nil => simp at e1
      | cons z l =>
        obtain ⟨zx, zl⟩ := z
        have e1' : ¬ (l.length : Int) + 1 ≤ 2 := by have : ¬ l.length + 1 ≤ 2 := by simpa using e1
                                                    omega
        refine aw_seq ?_; refine aw_reg (fun K hK => ?_); simp -implicitDefEqProofs [tc_mk]; refine hK _ ?_
        refine aw_ret (fin_ret ?_); simp -implicitDefEqProofs [FinP, resV, resT, inn, e1', hk29, h25, h33, fst, Tr.kids] <;> try rfl
    refine aw_reg (fun K hK => ?_); simp -implicitDefEqProofs [h33]; refine hK _ ?_
    refine aw_cond rfl (fun hb => by simp at hb) (fun _ => ?_)
    refine aw_skip ?_
    refine aw_seq ?_; refine aw_reg (fun K hK => ?_); simp -implicitDefEqProofs; refine hK _ ?_
    refine aw_ret (fin_ret ?_); simp -implicitDefEqProofs [FinP, resV, resT, inn, e1, hk29, h25, h33] <;> try rfl
  have h2' : ¬ j = 2 := by omega
  by_cases h25 : x.k = 25
  · refine aw_reg (fun K hK => ?_); simp -implicitDefEqProofs [h25, h2, h2']; refine hK _ ?_
    refine aw_cond rfl (fun hb => by simp at hb) (fun _ => ?_)
    refine aw_skip ?_
    refine aw_seq ?_; refine aw_seq ?_; refine aw_reg (fun K hK => ?_); simp -implicitDefEqProofs [h25]; refine hK _ ?_
    refine aw_cond rfl (fun hb => by simp at hb) (fun _ => ?_)
    refine aw_skip ?_
    refine aw_seq ?_; refine aw_reg (fun K hK => ?_); simp -implicitDefEqProofs; refine hK _ ?_
    refine aw_ret (fin_ret ?_); simp -implicitDefEqProofs [FinP, resV, resT, inn, e0, e1, hk29, h25, h2, h2'] <;> try rfl
  refine aw_reg (fun K hK => ?_); simp -implicitDefEqProofs [h25]; refine hK _ ?_
  refine aw_cond rfl (fun hb => by simp at hb) (fun _ => ?_)
  refine aw_skip ?_
  refine aw_seq ?_; refine aw_seq ?_
  by_cases h33 : x.k = 33
  · refine aw_reg (fun K hK => ?_); simp -implicitDefEqProofs [h33, h2, h2']; refine hK _ ?_
    refine aw_cond rfl (fun hb => by simp at hb) (fun _ => ?_)
    refine aw_skip ?_
    refine aw_seq ?_; refine aw_reg (fun K hK => ?_); simp -implicitDefEqProofs; refine hK _ ?_
    refine aw_ret (fin_ret ?_); simp -implicitDefEqProofs [FinP, resV, resT, inn, e0, e1, hk29, h25, h2, h2'] <;> try rfl
  refine aw_reg (fun K hK => ?_); simp -implicitDefEqProofs [h33]; refine hK _ ?_
  refine aw_cond rfl (fun hb => by simp at hb) (fun _ => ?_)
  refine aw_skip ?_
  refine aw_seq ?_; refine aw_reg (fun K hK => ?_); simp -implicitDefEqProofs; refine hK _ ?_
  refine aw_ret (fin_ret ?_); simp -implicitDefEqProofs [FinP, resV, resT, inn, e0, e1, hk29, h25, h33] <;> try rfl

set_option maxRecDepth 100000 in
set_option maxHeartbeats 4000000 in
theorem rraise_row (by' fr : Int) (b0 : -10000 ≤ by') (b1 : by' ≤ 1000000) (f0 : 0 ≤ fr) (f1 : fr ≤ 10000) (t : VT) : in64 t → ∀ d : Int, 0 ≤ d → d + t.size ≤ 1000000 → t.size ≤ 100000 → Row Try.prog 33 [vT t, vI by', vI fr, vI d] [] (vT (sh by' fr t d)) [] := by
  induction t using Tr.ind with
  | h x l ih =>
  intro h64 d hd0 hd1 hsz
  obtain ⟨hx64, hl64⟩ := (Tr.all_mk _ _ _).1 h64
  have hlen := Tr.len_size (x := x) (l := l)
  refine row_of Try.func33 rfl rfl (Nat.le_of_ble_eq_true rfl) ?_
  refine aw_seq ?_; refine aw_reg (fun K hK => ?_); simp -implicitDefEqProofs [ta_mk]; refine hK _ ?_
  refine aw_seq ?_; refine aw_seq ?_; refine aw_reg (fun K hK => ?_); simp -implicitDefEqProofs; refine hK _ ?_
  refine aw_cond rfl (fun hb => ?_) (fun hb => ?_)
  · have hk7 : x.k = 7 := by simpa using hb
    refine aw_seq ?_; refine aw_seq ?_; refine aw_reg (fun K hK => ?_); simp -implicitDefEqProofs [ta_mk]
    refine ar_call (call_pure (outer_row x l d ?_) (by simp [ta_mk]) (fun _ => rfl) rfl ?_)
    · intro hd
      have := hx64.2.1
      exact i64i _ (by omega) (by omega)
    simp -implicitDefEqProofs [ta_mk]; refine hK _ ?_
    refine aw_cond rfl (fun hb => ?_) (fun hb => ?_)
    · have hf : fr ≤ outr x.n d := by simpa using hb
      refine aw_reg (fun K hK => ?_); simp -implicitDefEqProofs; refine hK _ ?_
      refine aw_seq ?_; refine aw_reg (fun K hK => ?_); simp -implicitDefEqProofs; refine hK _ ?_
      refine aw_ret (fin_ret ?_); simp -implicitDefEqProofs [FinP, resV, resT, sh_mk, mv, hk7, hf] <;> try rfl
    · have hf : ¬ fr ≤ outr x.n d := by simpa using hb
      refine aw_skip ?_
      refine aw_seq ?_; refine aw_reg (fun K hK => ?_); simp -implicitDefEqProofs; refine hK _ ?_
      refine aw_ret (fin_ret ?_); simp -implicitDefEqProofs [FinP, resV, resT, sh_mk, mv, hk7, hf] <;> try rfl
  · have hk7 : ¬ x.k = 7 := by simpa using hb
    refine aw_skip ?_
    refine aw_seq ?_; refine aw_reg (fun K hK => ?_); simp -implicitDefEqProofs; refine hK _ ?_
    refine aw_seq ?_; refine aw_seq ?_; refine aw_reg (fun K hK => ?_); simp -implicitDefEqProofs; refine hK _ ?_
    refine aw_block ?_
    refine aw_lp (ι := Nat) (fun k => mkSt [(1, vI by'), (2, vI fr), (3, vI d), (4, .v (.c (.ptr 0 0))), (8, .v (.c (.ptr 1 0))), (9, .v (.c (.row 2 6 (((kidS by' fr x l d).take k).map tc)))), (10, vI k)] [some (.box (ta (.mk x l))), some (.box [.pv (I 0), .pv (I 0), .pv (Sx ⟨#[]⟩), .pv .nilS, .pv (I 0), .pv (I 0)]), some (.row 24 6)]) (fun k => k ≤ l.length) (fun k => l.length - k) 0 (Nat.zero_le _) (cov_intro [0, 1, 5] (by simp -implicitDefEqProofs [ta_mk]) (by simp -implicitDefEqProofs [ta_mk]) (by decide) rfl (by simp)) (fun I hI k hk => ?_)
    refine aw_seq ?_; refine aw_seq ?_; refine aw_reg (fun K hK => ?_); simp -implicitDefEqProofs [ta_mk]; refine hK _ ?_
    refine aw_cond rfl (fun hb => ?_) (fun hb => ?_)
    · refine aw_skip ?_
      have hkl : k < l.length := by simpa using hb
      obtain ⟨y, hy⟩ : ∃ y, l[k]? = some y := ⟨_, List.getElem?_eq_getElem hkl⟩
      have hka := kidS_at (by' := by') (fr := fr) (x := x) (d := d) hy
      have his := inn_size (x := x) hy
      have w1 : IntKind.i64.wrap (d + (inn x l k : Nat)) = d + (inn x l k : Nat) := i64i _ (by omega) (by omega)
      have w2 : IntKind.i64.wrap ((k : Nat) + 1 : Int) = (k : Nat) + 1 := i64i _ (by omega) (by omega)
      refine aw_seq ?_; refine aw_block ?_
      obtain ⟨yx, yl⟩ := y
      refine aw_drw mixd (fun K hK => ?_); simp -implicitDefEqProofs [ta_mk, hy, tc_mk]
      refine ard_call (calld_pure (rin_row x l k (by omega)) (by simp [ta_mk]) (fun _ => rfl) rfl ?_)
      simp -implicitDefEqProofs [w1]
      refine ard_call (calld_pure (ih (.mk yx yl) (List.mem_of_getElem? hy) (hl64 _ (List.mem_of_getElem? hy)) (d + (inn x l k : Nat)) (by omega) (by omega) (by omega)) (by simp [ta_mk, tc_mk]) (vT_ren _) rfl ?_)
      have hm : min k l.length = k := by omega
      have hb1 : (k + 1) * 72 ≤ 140737488355328 := by omega
      have hb2 : k + 1 ≤ 140737488355328 := by omega
      simp -implicitDefEqProofs [w1, kidS_len, hm, hb1, hb2]
      refine hK _ _ (by rfl) ?_
      refine aw_reg (fun K hK => ?_); simp -implicitDefEqProofs [w2]; refine hK _ ?_
      refine ⟨k + 1, by omega, (by dsimp only; omega), ?_⟩; rw [hI]; exact cov_intro [0, 1, 128] (by simp -implicitDefEqProofs [kidS_len, List.take_add_one, hka]) (by simp -implicitDefEqProofs [kidS_len, List.take_add_one, hka]) (by decide) rfl (by simp)
    · refine aw_exit ?_
      have hkl : k = l.length := by have : ¬ k < l.length := by simpa using hb
                                    omega
      subst hkl
      have ht : List.take l.length (List.map tc (kidS by' fr x l d)) = List.map tc (kidS by' fr x l d) := List.take_of_length_le (by rw [List.length_map, kidS_len]; exact Nat.le_refl _)
      refine aw_seq ?_; refine aw_reg (fun K hK => ?_); simp -implicitDefEqProofs [ht]; refine hK _ ?_
      refine aw_ret (fin_ret ?_); simp -implicitDefEqProofs [FinP, resV, resT, sh_mk, hk7] <;> try rfl
end Go.Proofs.Ytjmjillfclfkgaa.am
