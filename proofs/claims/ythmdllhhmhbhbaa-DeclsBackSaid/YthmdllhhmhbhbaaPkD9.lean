import Derived.Test.YthmdllhhmhbhbaaPkD8
import Derived.Test.YthmdllhhmhbhbaaPkD7
import Derived.IntWalk
import Derived.Test.YthmdllhhmhbhbaaPkD4
section
namespace Go.Proofs.Ythmdllhhmhbhbaa.am
open Go.ChangeShapes Go.WideShapes Go.ChangeAt Go.RowKit
open vt
set_option linter.unusedVariables false
set_option linter.unusedSimpArgs false
set_option maxRecDepth 100000 in
set_option maxHeartbeats 4000000 in
theorem rhas_row (m : VT) (hsz : m.size ≤ 1000000) (n kind : Int) (hn : n ≤ 9223372036854775807) : Row Try.prog 58 [vT m, vI n, vI kind] [] (vB (hasB m n kind)) [] := by
  obtain ⟨mx, ml⟩ := m
  have hml := Tr.len_size (x := mx) (l := ml)
  by_cases h0 : n < 0
  · rw [show hasB (.mk mx ml) n kind = false by unfold hasB; rw [if_pos h0]]
    refine row_of Try.func58 rfl rfl (Nat.le_of_ble_eq_true rfl) ?_
    repeat (first | refine aw_seq ?_ | refine aw_skip ?_ | refine aw_block ?_ | refine aw_exit ?_ | refine aw_cond rfl (fun _ => ?_) (fun hb => absurd hb (by decide)) | refine aw_cond rfl (fun hb => absurd hb (by decide)) (fun _ => ?_) | (refine aw_reg (fun K hK => ?_); simp -implicitDefEqProofs [h0]; refine hK _ ?_) | (refine aw_drw mixd (fun K hK => ?_); simp -implicitDefEqProofs [h0]; refine hK _ _ (by rfl) ?_) | fail)
    refine aw_ret (fin_ret ?_); simp -implicitDefEqProofs [FinP, resV, resT] <;> try rfl
  obtain ⟨a, rfl⟩ : ∃ N : Nat, n = N := ⟨n.toNat, by omega⟩
  have hf : hasB (.mk mx ml) (a : Nat) kind = (match ml[a]? with | none => false | some d => decide (d.lab.k = kind) && hasD d kind) := by
    unfold hasB; rw [if_neg h0, Int.toNat_natCast]; rfl
  by_cases hal : a < ml.length; rotate_left
  · have hal' : (ml.length : Int) ≤ (a : Nat) := by omega
    have hal2 : ml.length ≤ a := by omega
    rw [show hasB (.mk mx ml) (a : Nat) kind = false by rw [hf, List.getElem?_eq_none hal2]]
    clear hf
    refine row_of Try.func58 rfl rfl (Nat.le_of_ble_eq_true rfl) ?_
    repeat (first | refine aw_seq ?_ | refine aw_skip ?_ | refine aw_block ?_ | refine aw_exit ?_ | refine aw_cond rfl (fun _ => ?_) (fun hb => absurd hb (by decide)) | refine aw_cond rfl (fun hb => absurd hb (by decide)) (fun _ => ?_) | (refine aw_reg (fun K hK => ?_); simp -implicitDefEqProofs [h0, hal, hal', hal2]; refine hK _ ?_) | (refine aw_drw mixd (fun K hK => ?_); simp -implicitDefEqProofs [h0, hal, hal', hal2]; refine hK _ _ (by rfl) ?_) | fail)
    refine aw_ret (fin_ret ?_); simp -implicitDefEqProofs [FinP, resV, resT] <;> try rfl
  have hal' : ¬ (ml.length : Int) ≤ (a : Nat) := by omega
  have hal2 : ¬ ml.length ≤ a := by omega
  have w1 : IntKind.i64.wrap ((a : Nat) : Int) = (a : Nat) := i64i _ (by omega) (by omega)
  obtain ⟨⟨y, p⟩, hd⟩ : ∃ d, ml[a]? = some d := ⟨_, List.getElem?_eq_getElem hal⟩
  have hd' := (List.getElem?_eq_some_iff.1 hd).2
  have hdz := Tr.size_at (x := mx) hd
  have hsh := rshaped_row (.mk y p) (by omega)
  rw [hd] at hf
  by_cases hk : y.k = kind; rotate_left
  · rw [show hasB (.mk mx ml) (a : Nat) kind = false by rw [hf]; show (decide (y.k = kind) && _) = false; rw [decide_eq_false hk]; rfl]
    clear hf hsh
    refine row_of Try.func58 rfl rfl (Nat.le_of_ble_eq_true rfl) ?_
    repeat (first | refine aw_seq ?_ | refine aw_skip ?_ | refine aw_block ?_ | refine aw_exit ?_ | refine aw_cond rfl (fun _ => ?_) (fun hb => absurd hb (by decide)) | refine aw_cond rfl (fun hb => absurd hb (by decide)) (fun _ => ?_) | (refine aw_reg (fun K hK => ?_); simp -implicitDefEqProofs [h0, hal, hal', hal2, w1, hd, hd', hk]; refine hK _ ?_) | (refine aw_drw mixd (fun K hK => ?_); simp -implicitDefEqProofs [h0, hal, hal', hal2, w1, hd, hd', hk]; refine hK _ _ (by rfl) ?_) | fail)
    refine aw_ret (fin_ret ?_); simp -implicitDefEqProofs [FinP, resV, resT] <;> try rfl
  have hf : hasB (.mk mx ml) (a : Nat) kind = hasD (.mk y p) kind := by rw [hf]; show (decide (y.k = kind) && _) = _; rw [decide_eq_true hk, Bool.true_and]
  rw [hf]
  clear hf
  subst hk
  unfold hasD
  rw [Tr.kids]
  by_cases c1 : y.k = 31
  · rw [if_pos c1]
    by_cases l1 : p.length = 1
    · have l1' : (p.length : Int) = 1 := by omega
      obtain ⟨⟨ux, ul⟩, rfl⟩ := one_of l1
      have hl := rlit_row (.mk ux ul)
      have hlk := litT_k (.mk ux ul)
      rw [show [Tr.mk ux ul].getD 0 z0T = .mk ux ul from rfl]
      rw [Tr.lab] at hlk
      obtain ⟨⟨vx, vl⟩, hv⟩ : ∃ v, litT (.mk ux ul) = v := ⟨_, rfl⟩
      rw [hv] at hl hlk ⊢
      rw [Tr.lab] at hlk ⊢
      clear hv hlk hsh
      by_cases c0 : vx.k = 0
      · refine row_of Try.func58 rfl rfl (Nat.le_of_ble_eq_true rfl) ?_
        repeat' (first | refine aw_seq ?_ | refine aw_skip ?_ | refine aw_block ?_ | refine aw_exit ?_ | refine aw_cond rfl (fun _ => ?_) (fun hb => absurd hb (by decide)) | refine aw_cond rfl (fun hb => absurd hb (by decide)) (fun _ => ?_) | (refine aw_reg (fun K hK => ?_); simp -implicitDefEqProofs [h0, hal, hal', hal2, w1, hd, hd', c1, c0]) | (refine aw_drw mixd (fun K hK => ?_); simp -implicitDefEqProofs [h0, hal, hal', hal2, w1, hd, hd', c1, c0]) | refine hK _ ?_ | refine hK _ _ (by rfl) ?_ | (refine ar_call (cp hl ?_); simp -implicitDefEqProofs [h0, hal, hal', hal2, w1, hd, hd', c1, c0]) | (refine ard_call (dp hl ?_); simp -implicitDefEqProofs [h0, hal, hal', hal2, w1, hd, hd', c1, c0]) | fail)
        refine aw_ret (fin_ret ?_); simp -implicitDefEqProofs [FinP, resV, resT, c0] <;> try rfl
      · refine row_of Try.func58 rfl rfl (Nat.le_of_ble_eq_true rfl) ?_
        repeat' (first | refine aw_seq ?_ | refine aw_skip ?_ | refine aw_block ?_ | refine aw_exit ?_ | refine aw_cond rfl (fun _ => ?_) (fun hb => absurd hb (by decide)) | refine aw_cond rfl (fun hb => absurd hb (by decide)) (fun _ => ?_) | (refine aw_reg (fun K hK => ?_); simp -implicitDefEqProofs [h0, hal, hal', hal2, w1, hd, hd', c1, c0]) | (refine aw_drw mixd (fun K hK => ?_); simp -implicitDefEqProofs [h0, hal, hal', hal2, w1, hd, hd', c1, c0]) | refine hK _ ?_ | refine hK _ _ (by rfl) ?_ | (refine ar_call (cp hl ?_); simp -implicitDefEqProofs [h0, hal, hal', hal2, w1, hd, hd', c1, c0]) | (refine ard_call (dp hl ?_); simp -implicitDefEqProofs [h0, hal, hal', hal2, w1, hd, hd', c1, c0]) | fail)
        refine aw_ret (fin_ret ?_); simp -implicitDefEqProofs [FinP, resV, resT, c0] <;> try rfl
    · have l1' : ¬ (p.length : Int) = 1 := by omega
      clear hsh
      refine row_of Try.func58 rfl rfl (Nat.le_of_ble_eq_true rfl) ?_
      repeat (first | refine aw_seq ?_ | refine aw_skip ?_ | refine aw_block ?_ | refine aw_exit ?_ | refine aw_cond rfl (fun _ => ?_) (fun hb => absurd hb (by decide)) | refine aw_cond rfl (fun hb => absurd hb (by decide)) (fun _ => ?_) | (refine aw_reg (fun K hK => ?_); simp -implicitDefEqProofs [h0, hal, hal', hal2, w1, hd, hd', c1, l1, l1']; refine hK _ ?_) | (refine aw_drw mixd (fun K hK => ?_); simp -implicitDefEqProofs [h0, hal, hal', hal2, w1, hd, hd', c1, l1, l1']; refine hK _ _ (by rfl) ?_) | fail)
      refine aw_ret (fin_ret ?_); simp -implicitDefEqProofs [FinP, resV, resT, l1] <;> try rfl
  rw [if_neg c1]
  by_cases c2 : y.k = 32
  · rw [if_pos c2]
    clear hsh
    by_cases l1 : p.length = 1
    · have l1' : (p.length : Int) = 1 := by omega
      refine row_of Try.func58 rfl rfl (Nat.le_of_ble_eq_true rfl) ?_
      repeat (first | refine aw_seq ?_ | refine aw_skip ?_ | refine aw_block ?_ | refine aw_exit ?_ | refine aw_cond rfl (fun _ => ?_) (fun hb => absurd hb (by decide)) | refine aw_cond rfl (fun hb => absurd hb (by decide)) (fun _ => ?_) | (refine aw_reg (fun K hK => ?_); simp -implicitDefEqProofs [h0, hal, hal', hal2, w1, hd, hd', c2, l1, l1']; refine hK _ ?_) | (refine aw_drw mixd (fun K hK => ?_); simp -implicitDefEqProofs [h0, hal, hal', hal2, w1, hd, hd', c2, l1, l1']; refine hK _ _ (by rfl) ?_) | fail)
      refine aw_ret (fin_ret ?_); simp -implicitDefEqProofs [FinP, resV, resT, l1] <;> try rfl
    · have l1' : ¬ (p.length : Int) = 1 := by omega
      refine row_of Try.func58 rfl rfl (Nat.le_of_ble_eq_true rfl) ?_
      repeat (first | refine aw_seq ?_ | refine aw_skip ?_ | refine aw_block ?_ | refine aw_exit ?_ | refine aw_cond rfl (fun _ => ?_) (fun hb => absurd hb (by decide)) | refine aw_cond rfl (fun hb => absurd hb (by decide)) (fun _ => ?_) | (refine aw_reg (fun K hK => ?_); simp -implicitDefEqProofs [h0, hal, hal', hal2, w1, hd, hd', c2, l1, l1']; refine hK _ ?_) | (refine aw_drw mixd (fun K hK => ?_); simp -implicitDefEqProofs [h0, hal, hal', hal2, w1, hd, hd', c2, l1, l1']; refine hK _ _ (by rfl) ?_) | fail)
      refine aw_ret (fin_ret ?_); simp -implicitDefEqProofs [FinP, resV, resT, l1] <;> try rfl
  rw [if_neg c2]
  by_cases c3 : y.k = 33
  · rw [if_pos c3]
    clear hsh
    by_cases l1 : p.length = 3
    · have l1' : (p.length : Int) = 3 := by omega
      refine row_of Try.func58 rfl rfl (Nat.le_of_ble_eq_true rfl) ?_
      repeat (first | refine aw_seq ?_ | refine aw_skip ?_ | refine aw_block ?_ | refine aw_exit ?_ | refine aw_cond rfl (fun _ => ?_) (fun hb => absurd hb (by decide)) | refine aw_cond rfl (fun hb => absurd hb (by decide)) (fun _ => ?_) | (refine aw_reg (fun K hK => ?_); simp -implicitDefEqProofs [h0, hal, hal', hal2, w1, hd, hd', c3, l1, l1']; refine hK _ ?_) | (refine aw_drw mixd (fun K hK => ?_); simp -implicitDefEqProofs [h0, hal, hal', hal2, w1, hd, hd', c3, l1, l1']; refine hK _ _ (by rfl) ?_) | fail)
      refine aw_ret (fin_ret ?_); simp -implicitDefEqProofs [FinP, resV, resT, l1] <;> try rfl
    · have l1' : ¬ (p.length : Int) = 3 := by omega
      refine row_of Try.func58 rfl rfl (Nat.le_of_ble_eq_true rfl) ?_
      repeat (first | refine aw_seq ?_ | refine aw_skip ?_ | refine aw_block ?_ | refine aw_exit ?_ | refine aw_cond rfl (fun _ => ?_) (fun hb => absurd hb (by decide)) | refine aw_cond rfl (fun hb => absurd hb (by decide)) (fun _ => ?_) | (refine aw_reg (fun K hK => ?_); simp -implicitDefEqProofs [h0, hal, hal', hal2, w1, hd, hd', c3, l1, l1']; refine hK _ ?_) | (refine aw_drw mixd (fun K hK => ?_); simp -implicitDefEqProofs [h0, hal, hal', hal2, w1, hd, hd', c3, l1, l1']; refine hK _ _ (by rfl) ?_) | fail)
      refine aw_ret (fin_ret ?_); simp -implicitDefEqProofs [FinP, resV, resT, l1] <;> try rfl
  rw [if_neg c3]
  obtain ⟨sb, hsb⟩ : ∃ b, shpB (.mk y p) = b := ⟨_, rfl⟩
  rw [hsb] at hsh ⊢
  clear hsb
  refine row_of Try.func58 rfl rfl (Nat.le_of_ble_eq_true rfl) ?_
  repeat' (first | refine aw_seq ?_ | refine aw_skip ?_ | refine aw_block ?_ | refine aw_exit ?_ | refine aw_cond rfl (fun _ => ?_) (fun hb => absurd hb (by decide)) | refine aw_cond rfl (fun hb => absurd hb (by decide)) (fun _ => ?_) | (refine aw_reg (fun K hK => ?_); simp -implicitDefEqProofs [h0, hal, hal', hal2, w1, hd, hd', c1, c2, c3]) | (refine aw_drw mixd (fun K hK => ?_); simp -implicitDefEqProofs [h0, hal, hal', hal2, w1, hd, hd', c1, c2, c3]) | refine hK _ ?_ | refine hK _ _ (by rfl) ?_ | (refine ar_call (cp hsh ?_); simp -implicitDefEqProofs [h0, hal, hal', hal2, w1, hd, hd', c1, c2, c3]) | (refine ard_call (dp hsh ?_); simp -implicitDefEqProofs [h0, hal, hal', hal2, w1, hd, hd', c1, c2, c3]) | fail)
  refine aw_ret (fin_ret ?_); simp -implicitDefEqProofs [FinP, resV, resT] <;> try rfl
end Go.Proofs.Ythmdllhhmhbhbaa.am
end
section
namespace Go.Proofs.Ythmdllhhmhbhbaa.vt
open Go.Proofs.Ythmdllhhmhbhbaa.am
def namB (m : VT) (n : Nat) (x : Lab) : Bool :=
  if x.k = 7 then decide (0 ≤ x.n) && decide (x.n < n)
  else if x.k = 8 then hasB m x.n 31
  else if x.k = 9 then hasB m x.n 32
  else if x.k = 15 then hasB m x.n 30
  else if x.k = 16 then hasB m x.n 33
  else !decide (x.k = 17)
end Go.Proofs.Ythmdllhhmhbhbaa.vt
namespace Go.Proofs.Ythmdllhhmhbhbaa.vt
open Go.Proofs.Ythmdllhhmhbhbaa.am
noncomputable def barT (t : VT) : VT := Tr.fold (fun x _ bs => .mk ⟨x.k, x.n, x.s, 0, 0⟩ bs) t
theorem barT_mk (x : Lab) (l : List VT) : barT (.mk x l) = .mk ⟨x.k, x.n, x.s, 0, 0⟩ (l.map barT) := Tr.fold_mk _ x l
theorem barT_size (t : VT) : (barT t).size = t.size := by
  induction t using Tr.ind with
  | h x l ih =>
  rw [barT_mk, Tr.size_mk, Tr.size_mk, List.map_map]
  congr 2
  exact List.map_congr_left (fun y hy => ih y hy)
theorem barT_ok (t : VT) : in64 t → in64 (barT t) := by
  induction t using Tr.ind with
  | h x l ih =>
  intro h
  obtain ⟨h1, h2⟩ := (Tr.all_mk _ x l).1 h
  rw [barT_mk]
  refine (Tr.all_mk _ _ _).2 ⟨⟨h1.1, h1.2.1, by constructor <;> (dsimp only; omega), by constructor <;> (dsimp only; omega)⟩, fun y hy => ?_⟩
  obtain ⟨z, hz, rfl⟩ := List.mem_map.1 hy
  exact ih z hz (h2 z hz)
end Go.Proofs.Ythmdllhhmhbhbaa.vt
end
section
namespace Go.Proofs.Ythmdllhhmhbhbaa.am
open Go.ChangeShapes Go.WideShapes Go.ChangeAt Go.RowKit
open vt
set_option linter.unusedVariables false
set_option linter.unusedSimpArgs false
set_option maxRecDepth 100000 in
set_option maxHeartbeats 4000000 in
theorem rnam_row (m : VT) (hsz : m.size ≤ 1000000) (L : List VT) (x : Lab) (l : List VT) (hx : x.ok) : Row Try.prog 54 [vT m, vLs L, vT (.mk x l)] [] (vB (namB m L.length x)) [] := by
  have hh := fun k => rhas_row m hsz x.n k hx.2.1.2
  have h1 := hh 31
  have h2 := hh 32
  have h3 := hh 30
  have h4 := hh 33
  clear hh
  unfold namB
  obtain ⟨p1, q1⟩ : ∃ p, hasB m x.n 31 = p := ⟨_, rfl⟩
  obtain ⟨p2, q2⟩ : ∃ p, hasB m x.n 32 = p := ⟨_, rfl⟩
  obtain ⟨p3, q3⟩ : ∃ p, hasB m x.n 30 = p := ⟨_, rfl⟩
  obtain ⟨p4, q4⟩ : ∃ p, hasB m x.n 33 = p := ⟨_, rfl⟩
  rw [q1] at h1
  rw [q2] at h2
  rw [q3] at h3
  rw [q4] at h4
  rw [q1, q2, q3, q4]
  clear q1 q2 q3 q4
  obtain ⟨mx, ml⟩ := m
  by_cases c7 : x.k = 7
  · rw [if_pos c7]
    by_cases a1 : 0 ≤ x.n
    · by_cases a2 : x.n < L.length
      · refine row_of Try.func54 rfl rfl (Nat.le_of_ble_eq_true rfl) ?_
        repeat (first | refine aw_seq ?_ | refine aw_skip ?_ | refine aw_block ?_ | refine aw_exit ?_ | refine aw_cond rfl (fun _ => ?_) (fun hb => absurd hb (by decide)) | refine aw_cond rfl (fun hb => absurd hb (by decide)) (fun _ => ?_) | (refine aw_reg (fun K hK => ?_); simp -implicitDefEqProofs [c7, a1, a2]; refine hK _ ?_) | (refine aw_drw mixd (fun K hK => ?_); simp -implicitDefEqProofs [c7, a1, a2]; refine hK _ _ (by rfl) ?_) | fail)
        refine aw_ret (fin_ret ?_); simp -implicitDefEqProofs [FinP, resV, resT, a1, a2] <;> try rfl
      · refine row_of Try.func54 rfl rfl (Nat.le_of_ble_eq_true rfl) ?_
        repeat (first | refine aw_seq ?_ | refine aw_skip ?_ | refine aw_block ?_ | refine aw_exit ?_ | refine aw_cond rfl (fun _ => ?_) (fun hb => absurd hb (by decide)) | refine aw_cond rfl (fun hb => absurd hb (by decide)) (fun _ => ?_) | (refine aw_reg (fun K hK => ?_); simp -implicitDefEqProofs [c7, a1, a2]; refine hK _ ?_) | (refine aw_drw mixd (fun K hK => ?_); simp -implicitDefEqProofs [c7, a1, a2]; refine hK _ _ (by rfl) ?_) | fail)
        refine aw_ret (fin_ret ?_); simp -implicitDefEqProofs [FinP, resV, resT, a1, a2] <;> try rfl
    · refine row_of Try.func54 rfl rfl (Nat.le_of_ble_eq_true rfl) ?_
      repeat (first | refine aw_seq ?_ | refine aw_skip ?_ | refine aw_block ?_ | refine aw_exit ?_ | refine aw_cond rfl (fun _ => ?_) (fun hb => absurd hb (by decide)) | refine aw_cond rfl (fun hb => absurd hb (by decide)) (fun _ => ?_) | (refine aw_reg (fun K hK => ?_); simp -implicitDefEqProofs [c7, a1]; refine hK _ ?_) | (refine aw_drw mixd (fun K hK => ?_); simp -implicitDefEqProofs [c7, a1]; refine hK _ _ (by rfl) ?_) | fail)
      refine aw_ret (fin_ret ?_); simp -implicitDefEqProofs [FinP, resV, resT, a1] <;> try rfl
  rw [if_neg c7]
  by_cases c8 : x.k = 8
  · rw [if_pos c8]
    refine row_of Try.func54 rfl rfl (Nat.le_of_ble_eq_true rfl) ?_
    repeat' (first | refine aw_seq ?_ | refine aw_skip ?_ | refine aw_block ?_ | refine aw_exit ?_ | refine aw_cond rfl (fun _ => ?_) (fun hb => absurd hb (by decide)) | refine aw_cond rfl (fun hb => absurd hb (by decide)) (fun _ => ?_) | (refine aw_reg (fun K hK => ?_); simp -implicitDefEqProofs [c8]) | (refine aw_drw mixd (fun K hK => ?_); simp -implicitDefEqProofs [c8]) | refine hK _ ?_ | refine hK _ _ (by rfl) ?_ | (refine ar_call (cp h1 ?_); simp -implicitDefEqProofs [c8]) | (refine ard_call (dp h1 ?_); simp -implicitDefEqProofs [c8]) | fail)
    refine aw_ret (fin_ret ?_); simp -implicitDefEqProofs [FinP, resV, resT] <;> try rfl
  rw [if_neg c8]
  by_cases c9 : x.k = 9
  · rw [if_pos c9]
    refine row_of Try.func54 rfl rfl (Nat.le_of_ble_eq_true rfl) ?_
    repeat' (first | refine aw_seq ?_ | refine aw_skip ?_ | refine aw_block ?_ | refine aw_exit ?_ | refine aw_cond rfl (fun _ => ?_) (fun hb => absurd hb (by decide)) | refine aw_cond rfl (fun hb => absurd hb (by decide)) (fun _ => ?_) | (refine aw_reg (fun K hK => ?_); simp -implicitDefEqProofs [c9]) | (refine aw_drw mixd (fun K hK => ?_); simp -implicitDefEqProofs [c9]) | refine hK _ ?_ | refine hK _ _ (by rfl) ?_ | (refine ar_call (cp h2 ?_); simp -implicitDefEqProofs [c9]) | (refine ard_call (dp h2 ?_); simp -implicitDefEqProofs [c9]) | fail)
    refine aw_ret (fin_ret ?_); simp -implicitDefEqProofs [FinP, resV, resT] <;> try rfl
  rw [if_neg c9]
  by_cases c15 : x.k = 15
  · rw [if_pos c15]
    refine row_of Try.func54 rfl rfl (Nat.le_of_ble_eq_true rfl) ?_
    repeat' (first | refine aw_seq ?_ | refine aw_skip ?_ | refine aw_block ?_ | refine aw_exit ?_ | refine aw_cond rfl (fun _ => ?_) (fun hb => absurd hb (by decide)) | refine aw_cond rfl (fun hb => absurd hb (by decide)) (fun _ => ?_) | (refine aw_reg (fun K hK => ?_); simp -implicitDefEqProofs [c15]) | (refine aw_drw mixd (fun K hK => ?_); simp -implicitDefEqProofs [c15]) | refine hK _ ?_ | refine hK _ _ (by rfl) ?_ | (refine ar_call (cp h3 ?_); simp -implicitDefEqProofs [c15]) | (refine ard_call (dp h3 ?_); simp -implicitDefEqProofs [c15]) | fail)
    refine aw_ret (fin_ret ?_); simp -implicitDefEqProofs [FinP, resV, resT] <;> try rfl
  rw [if_neg c15]
  by_cases c16 : x.k = 16
  · rw [if_pos c16]
    refine row_of Try.func54 rfl rfl (Nat.le_of_ble_eq_true rfl) ?_
    repeat' (first | refine aw_seq ?_ | refine aw_skip ?_ | refine aw_block ?_ | refine aw_exit ?_ | refine aw_cond rfl (fun _ => ?_) (fun hb => absurd hb (by decide)) | refine aw_cond rfl (fun hb => absurd hb (by decide)) (fun _ => ?_) | (refine aw_reg (fun K hK => ?_); simp -implicitDefEqProofs [c16]) | (refine aw_drw mixd (fun K hK => ?_); simp -implicitDefEqProofs [c16]) | refine hK _ ?_ | refine hK _ _ (by rfl) ?_ | (refine ar_call (cp h4 ?_); simp -implicitDefEqProofs [c16]) | (refine ard_call (dp h4 ?_); simp -implicitDefEqProofs [c16]) | fail)
    refine aw_ret (fin_ret ?_); simp -implicitDefEqProofs [FinP, resV, resT] <;> try rfl
  rw [if_neg c16]
  by_cases c17 : x.k = 17
  · refine row_of Try.func54 rfl rfl (Nat.le_of_ble_eq_true rfl) ?_
    repeat (first | refine aw_seq ?_ | refine aw_skip ?_ | refine aw_block ?_ | refine aw_exit ?_ | refine aw_cond rfl (fun _ => ?_) (fun hb => absurd hb (by decide)) | refine aw_cond rfl (fun hb => absurd hb (by decide)) (fun _ => ?_) | (refine aw_reg (fun K hK => ?_); simp -implicitDefEqProofs [c7, c8, c9, c15, c16, c17]; refine hK _ ?_) | (refine aw_drw mixd (fun K hK => ?_); simp -implicitDefEqProofs [c7, c8, c9, c15, c16, c17]; refine hK _ _ (by rfl) ?_) | fail)
    refine aw_ret (fin_ret ?_); simp -implicitDefEqProofs [FinP, resV, resT, c17] <;> try rfl
  · refine row_of Try.func54 rfl rfl (Nat.le_of_ble_eq_true rfl) ?_
    repeat (first | refine aw_seq ?_ | refine aw_skip ?_ | refine aw_block ?_ | refine aw_exit ?_ | refine aw_cond rfl (fun _ => ?_) (fun hb => absurd hb (by decide)) | refine aw_cond rfl (fun hb => absurd hb (by decide)) (fun _ => ?_) | (refine aw_reg (fun K hK => ?_); simp -implicitDefEqProofs [c7, c8, c9, c15, c16, c17]; refine hK _ ?_) | (refine aw_drw mixd (fun K hK => ?_); simp -implicitDefEqProofs [c7, c8, c9, c15, c16, c17]; refine hK _ _ (by rfl) ?_) | fail)
    refine aw_ret (fin_ret ?_); simp -implicitDefEqProofs [FinP, resV, resT, c17] <;> try rfl
end Go.Proofs.Ythmdllhhmhbhbaa.am
end
section
namespace Go.Proofs.Ythmdllhhmhbhbaa.am
open Go.ChangeShapes Go.WideShapes Go.ChangeAt Go.RowKit
open vt
set_option linter.unusedVariables false
set_option linter.unusedSimpArgs false
set_option maxRecDepth 100000 in
set_option maxHeartbeats 4000000 in
theorem rbare_row (t : VT) : t.size ≤ 1000000 → Row Try.prog 50 [vT t] [] (vT (barT t)) [] := by
  induction t using Tr.ind with
  | h x l ih =>
  intro hsz
  have hlen := Tr.len_size (x := x) (l := l)
  rw [barT_mk]
  refine row_of Try.func50 rfl rfl (Nat.le_of_ble_eq_true rfl) ?_
  repeat (first | refine aw_seq ?_ | refine aw_skip ?_ | refine aw_block ?_ | refine aw_exit ?_ | refine aw_cond rfl (fun _ => ?_) (fun hb => absurd hb (by decide)) | refine aw_cond rfl (fun hb => absurd hb (by decide)) (fun _ => ?_) | (refine aw_reg (fun K hK => ?_); simp -implicitDefEqProofs; refine hK _ ?_) | (refine aw_drw mixd (fun K hK => ?_); simp -implicitDefEqProofs; refine hK _ _ (by rfl) ?_) | fail)
  refine aw_lp (ι := Nat) (fun k => mkSt [(1, .v (.c (.ptr 0 0))), (2, .v (.c (.ptr 1 0))), (3, .v (.c (.row 2 6 (((l.take k).map barT).map tc)))), (4, vI (k : Nat))] [some (.box (ta (.mk x l))), some (.box (ta (.mk ⟨0, 0, ⟨#[]⟩, 0, 0⟩ []))), some (.row 24 6)]) (fun k => k ≤ l.length) (fun k => l.length - k) 0 (Nat.zero_le _) (cov_intro [0, 1, 2] (by simp -implicitDefEqProofs) (by simp -implicitDefEqProofs) (by decide) rfl (by simp)) (fun Z hI k hk => ?_)
  by_cases hkl : k < l.length; rotate_left
  · have : k = l.length := by omega
    subst this
    rw [List.take_length]
    repeat (first | refine aw_seq ?_ | refine aw_skip ?_ | refine aw_block ?_ | refine aw_exit ?_ | refine aw_cond rfl (fun _ => ?_) (fun hb => absurd hb (by decide)) | refine aw_cond rfl (fun hb => absurd hb (by decide)) (fun _ => ?_) | (refine aw_reg (fun K hK => ?_); simp -implicitDefEqProofs; refine hK _ ?_) | (refine aw_drw mixd (fun K hK => ?_); simp -implicitDefEqProofs; refine hK _ _ (by rfl) ?_) | fail)
    refine aw_ret (fin_ret ?_); simp -implicitDefEqProofs [FinP, resV, resT] <;> try rfl
  obtain ⟨⟨ax, al⟩, ha⟩ : ∃ a, l[k]? = some a := ⟨_, List.getElem?_eq_getElem hkl⟩
  have ha' := (List.getElem?_eq_some_iff.1 ha).2
  have hsz1 := Tr.size_at (x := x) ha
  have hc := ih _ (List.mem_of_getElem? ha) (by omega)
  have w2 : IntKind.i64.wrap ((k : Nat) + 1 : Int) = (k : Nat) + 1 := i64i _ (by omega) (by omega)
  have hs : (l.take (k + 1)).map barT = (l.take k).map barT ++ [barT (.mk ax al)] := by rw [List.take_add_one, ha]; simp
  obtain ⟨L, hL⟩ : ∃ L, (l.take k).map barT = L := ⟨_, rfl⟩
  have hLl : L.length = k := by rw [← hL, List.length_map, List.length_take]; omega
  rw [hL] at hs ⊢
  obtain ⟨⟨bx, bl⟩, hb⟩ : ∃ b, barT (.mk ax al) = b := ⟨_, rfl⟩
  rw [hb] at hc hs
  have b1 : (k + 1) * 72 ≤ 140737488355328 := by omega
  have b2 : k + 1 ≤ 140737488355328 := by omega
  repeat' (first | refine aw_seq ?_ | refine aw_skip ?_ | refine aw_block ?_ | refine aw_exit ?_ | refine aw_cond rfl (fun _ => ?_) (fun hb => absurd hb (by decide)) | refine aw_cond rfl (fun hb => absurd hb (by decide)) (fun _ => ?_) | (refine aw_reg (fun K hK => ?_); simp -implicitDefEqProofs [hkl, ha, ha', hLl, b1, b2, w2]) | (refine aw_drw mixd (fun K hK => ?_); simp -implicitDefEqProofs [hkl, ha, ha', hLl, b1, b2, w2]) | refine hK _ ?_ | refine hK _ _ (by rfl) ?_ | (refine ar_call (cp hc ?_); simp -implicitDefEqProofs [hkl, ha, ha', hLl, b1, b2, w2]) | (refine ard_call (dp hc ?_); simp -implicitDefEqProofs [hkl, ha, ha', hLl, b1, b2, w2]) | fail)
  refine ⟨k + 1, by omega, (by dsimp only; omega), ?_⟩
  rw [hI, hs]; exact cov_intro [0, 1, 23] (by simp -implicitDefEqProofs) (by simp -implicitDefEqProofs) (by decide) rfl (by simp)
end Go.Proofs.Ythmdllhhmhbhbaa.am
end
section
namespace Go.Proofs.Ythmdllhhmhbhbaa.am
open Go.ChangeShapes Go.WideShapes Go.ChangeAt Go.RowKit
open vt
set_option linter.unusedVariables false
set_option linter.unusedSimpArgs false
set_option maxRecDepth 100000 in
set_option maxHeartbeats 4000000 in
theorem rsame_row (t : VT) : t.size ≤ 1000000 → ∀ u : VT, u.size ≤ 1000000 → Row Try.prog 10 [vT t, vT u] [] (vB (same t u)) [] := by
  induction t using Tr.ind with
  | h x l ih =>
  intro hsz u hsu
  obtain ⟨y, m⟩ := u
  have hlen := Tr.len_size (x := x) (l := l)
  rw [show same (.mk x l) (.mk y m) = _ from eqv_mk pS x y l m]
  refine row_of Try.func10 rfl rfl (Nat.le_of_ble_eq_true rfl) ?_
  by_cases hk : x.k = y.k; rotate_left
  · repeat (first | refine aw_seq ?_ | refine aw_skip ?_ | refine aw_block ?_ | refine aw_exit ?_ | refine aw_cond rfl (fun _ => ?_) (fun hb => absurd hb (by decide)) | refine aw_cond rfl (fun hb => absurd hb (by decide)) (fun _ => ?_) | (refine aw_reg (fun K hK => ?_); simp -implicitDefEqProofs [hk]; refine hK _ ?_) | (refine aw_drw mixd (fun K hK => ?_); simp -implicitDefEqProofs [hk]; refine hK _ _ (by rfl) ?_) | fail)
    refine aw_ret (fin_ret ?_); simp -implicitDefEqProofs [FinP, resV, resT, hk, pS] <;> try rfl
  by_cases hn : x.n = y.n; rotate_left
  · repeat (first | refine aw_seq ?_ | refine aw_skip ?_ | refine aw_block ?_ | refine aw_exit ?_ | refine aw_cond rfl (fun _ => ?_) (fun hb => absurd hb (by decide)) | refine aw_cond rfl (fun hb => absurd hb (by decide)) (fun _ => ?_) | (refine aw_reg (fun K hK => ?_); simp -implicitDefEqProofs [hk, hn]; refine hK _ ?_) | (refine aw_drw mixd (fun K hK => ?_); simp -implicitDefEqProofs [hk, hn]; refine hK _ _ (by rfl) ?_) | fail)
    refine aw_ret (fin_ret ?_); simp -implicitDefEqProofs [FinP, resV, resT, hk, hn, pS] <;> try rfl
  by_cases hs : x.s = y.s; rotate_left
  · repeat (first | refine aw_seq ?_ | refine aw_skip ?_ | refine aw_block ?_ | refine aw_exit ?_ | refine aw_cond rfl (fun _ => ?_) (fun hb => absurd hb (by decide)) | refine aw_cond rfl (fun hb => absurd hb (by decide)) (fun _ => ?_) | (refine aw_reg (fun K hK => ?_); simp -implicitDefEqProofs [hk, hn, hs]; refine hK _ ?_) | (refine aw_drw mixd (fun K hK => ?_); simp -implicitDefEqProofs [hk, hn, hs]; refine hK _ _ (by rfl) ?_) | fail)
    refine aw_ret (fin_ret ?_); simp -implicitDefEqProofs [FinP, resV, resT, hk, hn, hs, pS] <;> try rfl
  by_cases hm : l.length = m.length; rotate_left
  · have hm' : ¬ (l.length : Int) = (m.length : Int) := by omega
    repeat (first | refine aw_seq ?_ | refine aw_skip ?_ | refine aw_block ?_ | refine aw_exit ?_ | refine aw_cond rfl (fun _ => ?_) (fun hb => absurd hb (by decide)) | refine aw_cond rfl (fun hb => absurd hb (by decide)) (fun _ => ?_) | (refine aw_reg (fun K hK => ?_); simp -implicitDefEqProofs [hk, hn, hs, hm, hm']; refine hK _ ?_) | (refine aw_drw mixd (fun K hK => ?_); simp -implicitDefEqProofs [hk, hn, hs, hm, hm']; refine hK _ _ (by rfl) ?_) | fail)
    refine aw_ret (fin_ret ?_); simp -implicitDefEqProofs [FinP, resV, resT, hk, hn, hs, hm, pS] <;> try rfl
  repeat (first | refine aw_seq ?_ | refine aw_skip ?_ | refine aw_block ?_ | refine aw_exit ?_ | refine aw_cond rfl (fun _ => ?_) (fun hb => absurd hb (by decide)) | refine aw_cond rfl (fun hb => absurd hb (by decide)) (fun _ => ?_) | (refine aw_reg (fun K hK => ?_); simp -implicitDefEqProofs [hk, hn, hs, hm]; refine hK _ ?_) | (refine aw_drw mixd (fun K hK => ?_); simp -implicitDefEqProofs [hk, hn, hs, hm]; refine hK _ _ (by rfl) ?_) | fail)
  refine aw_lp (ι := Nat) (fun k => mkSt [(2, .v (.c (.ptr 0 0))), (3, .v (.c (.ptr 1 0))), (5, vI (k : Nat))] [some (.box (ta (.mk x l))), some (.box (ta (.mk y m)))]) (fun k => k ≤ l.length ∧ zipA (eqv pS) l m k = true) (fun k => l.length - k) 0 ⟨Nat.zero_le _, zipA_zero _ _ _⟩ (cov_intro [0, 1] (by simp -implicitDefEqProofs [hk, hn, hs, hm]) (by simp -implicitDefEqProofs [hk, hn, hs, hm]) (by decide) rfl (by simp)) (fun Z hI k hkz => ?_)
  obtain ⟨hkl', hz⟩ := hkz
  by_cases hkl : k < l.length; rotate_left
  · have : k = l.length := by omega
    subst this
    rw [show (pS x y && decide (l.length = m.length) && zipA (eqv pS) l m l.length) = true by rw [hz]; simp [pS, hk, hn, hs, hm]]
    repeat (first | refine aw_seq ?_ | refine aw_skip ?_ | refine aw_block ?_ | refine aw_exit ?_ | refine aw_cond rfl (fun _ => ?_) (fun hb => absurd hb (by decide)) | refine aw_cond rfl (fun hb => absurd hb (by decide)) (fun _ => ?_) | (refine aw_reg (fun K hK => ?_); simp -implicitDefEqProofs; refine hK _ ?_) | (refine aw_drw mixd (fun K hK => ?_); simp -implicitDefEqProofs; refine hK _ _ (by rfl) ?_) | fail)
    refine aw_ret (fin_ret ?_); simp -implicitDefEqProofs [FinP, resV, resT] <;> try rfl
  have hkm : k < m.length := by omega
  obtain ⟨⟨ax, al⟩, ha⟩ : ∃ a, l[k]? = some a := ⟨_, List.getElem?_eq_getElem hkl⟩
  obtain ⟨⟨bx, bl⟩, hb⟩ : ∃ a, m[k]? = some a := ⟨_, List.getElem?_eq_getElem hkm⟩
  have ha' := (List.getElem?_eq_some_iff.1 ha).2
  have hb' := (List.getElem?_eq_some_iff.1 hb).2
  have hsz1 := Tr.size_at (x := x) ha
  have hsz2 := Tr.size_at (x := y) hb
  have w2 : IntKind.i64.wrap ((k : Nat) + 1 : Int) = (k : Nat) + 1 := i64i _ (by omega) (by omega)
  have hzs := zipA_succ (f := eqv pS) ha hb
  repeat (first | refine aw_seq ?_ | refine aw_skip ?_ | refine aw_block ?_ | refine aw_exit ?_ | refine aw_cond rfl (fun _ => ?_) (fun hb => absurd hb (by decide)) | refine aw_cond rfl (fun hb => absurd hb (by decide)) (fun _ => ?_) | (refine aw_reg (fun K hK => ?_); simp -implicitDefEqProofs [hkl]; refine hK _ ?_) | (refine aw_drw mixd (fun K hK => ?_); simp -implicitDefEqProofs [hkl]; refine hK _ _ (by rfl) ?_) | fail)
  refine aw_drw mixd (fun K hK => ?_); simp -implicitDefEqProofs [hkl, hkm, ha, ha', hb, hb']
  refine ard_call (calld_pure (ih _ (List.mem_of_getElem? ha) (by omega) (.mk bx bl) (by omega)) (by simp) (fun _ => rfl) rfl ?_)
  simp -implicitDefEqProofs
  refine hK _ _ (by rfl) ?_
  refine aw_cond rfl (fun hb => ?_) (fun hb => ?_)
  · have hf : same (.mk ax al) (.mk bx bl) = false := by simpa using hb
    repeat (first | refine aw_seq ?_ | refine aw_skip ?_ | refine aw_block ?_ | refine aw_exit ?_ | refine aw_cond rfl (fun _ => ?_) (fun hb => absurd hb (by decide)) | refine aw_cond rfl (fun hb => absurd hb (by decide)) (fun _ => ?_) | (refine aw_reg (fun K hK => ?_); simp -implicitDefEqProofs; refine hK _ ?_) | (refine aw_drw mixd (fun K hK => ?_); simp -implicitDefEqProofs; refine hK _ _ (by rfl) ?_) | fail)
    have e : zipA (eqv pS) l m l.length = false := by
      have := zipA_mono (l.length - (k + 1)) (show zipA (eqv pS) l m (k + 1) = false by rw [hzs, hz]; simpa using hf)
      rwa [show k + 1 + (l.length - (k + 1)) = l.length by omega] at this
    refine aw_ret (fin_ret ?_); simp -implicitDefEqProofs [FinP, resV, resT, e] <;> try rfl
  · have hf : same (.mk ax al) (.mk bx bl) = true := by simpa using hb
    repeat (first | refine aw_seq ?_ | refine aw_skip ?_ | refine aw_block ?_ | refine aw_exit ?_ | refine aw_cond rfl (fun _ => ?_) (fun hb => absurd hb (by decide)) | refine aw_cond rfl (fun hb => absurd hb (by decide)) (fun _ => ?_) | (refine aw_reg (fun K hK => ?_); simp -implicitDefEqProofs [w2]; refine hK _ ?_) | (refine aw_drw mixd (fun K hK => ?_); simp -implicitDefEqProofs [w2]; refine hK _ _ (by rfl) ?_) | fail)
    refine ⟨k + 1, ⟨by omega, by rw [hzs, hz]; simpa using hf⟩, (by dsimp only; omega), ?_⟩
    rw [hI]; exact cov_intro [0, 1] (by simp -implicitDefEqProofs) (by simp -implicitDefEqProofs) (by decide) rfl (by simp)
end Go.Proofs.Ythmdllhhmhbhbaa.am
end
section
namespace Go.Proofs.Ythmdllhhmhbhbaa.am
open Go.ChangeShapes Go.WideShapes Go.ChangeAt Go.RowKit
open vt
set_option linter.unusedVariables false
set_option linter.unusedSimpArgs false
noncomputable def fitB : List VT → List VT → Bool
  | [], [] => true
  | a :: A, p :: P => (decide (p.kids.length = 1) && same a (barT (p.kids.getD 0 z0T))) && fitB A P
  | _, _ => false
theorem fitB_len : ∀ {A P : List VT}, A.length ≠ P.length → fitB A P = false
  | [], [], h => absurd rfl h
  | a :: A, p :: P, h => by unfold fitB; rw [fitB_len (fun e => h (by simp [e])), Bool.and_false]
  | [], _ :: _, _ => rfl
  | _ :: _, [], _ => rfl
set_option maxRecDepth 100000 in
set_option maxHeartbeats 4000000 in
theorem rfit_row (A P : List VT) (hA : ∀ a ∈ A, a.size ≤ 1000000) (hP : ∀ p ∈ P, p.size ≤ 1000000) (hl : P.length ≤ 1000000) (hl2 : A.length ≤ 1000000) : Row Try.prog 62 [vLs A, vLs P] [] (vB (fitB A P)) [] := by
  by_cases he : A.length = P.length; rotate_left
  · rw [fitB_len he]
    have he' : ¬ (A.length : Int) = (P.length : Int) := by omega
    refine row_of Try.func62 rfl rfl (Nat.le_of_ble_eq_true rfl) ?_
    repeat (first | refine aw_seq ?_ | refine aw_skip ?_ | refine aw_block ?_ | refine aw_exit ?_ | refine aw_cond rfl (fun _ => ?_) (fun hb => absurd hb (by decide)) | refine aw_cond rfl (fun hb => absurd hb (by decide)) (fun _ => ?_) | (refine aw_reg (fun K hK => ?_); simp -implicitDefEqProofs [he, he']; refine hK _ ?_) | (refine aw_drw mixd (fun K hK => ?_); simp -implicitDefEqProofs [he, he']; refine hK _ _ (by rfl) ?_) | fail)
    refine aw_ret (fin_ret ?_); simp -implicitDefEqProofs [FinP, resV, resT] <;> try rfl
  obtain ⟨R, hR⟩ : ∃ R, fitB A P = R := ⟨_, rfl⟩
  rw [hR]
  refine row_of Try.func62 rfl rfl (Nat.le_of_ble_eq_true rfl) ?_
  repeat (first | refine aw_seq ?_ | refine aw_skip ?_ | refine aw_block ?_ | refine aw_exit ?_ | refine aw_cond rfl (fun _ => ?_) (fun hb => absurd hb (by decide)) | refine aw_cond rfl (fun hb => absurd hb (by decide)) (fun _ => ?_) | (refine aw_reg (fun K hK => ?_); simp -implicitDefEqProofs [he]; refine hK _ ?_) | (refine aw_drw mixd (fun K hK => ?_); simp -implicitDefEqProofs [he]; refine hK _ _ (by rfl) ?_) | fail)
  refine aw_lp (ι := Nat) (fun k => mkSt [(0, vLs A), (1, vLs P), (5, vI (k : Nat))] []) (fun k => k ≤ P.length ∧ fitB (A.drop k) (P.drop k) = R) (fun k => P.length - k) 0 ⟨Nat.zero_le _, by simpa using hR⟩ (cov_intro [] (by simp -implicitDefEqProofs) (by simp -implicitDefEqProofs) (by decide) rfl (by simp)) (fun Z hI k hk => ?_)
  obtain ⟨hk, hz⟩ := hk
  by_cases hkl : k < P.length; rotate_left
  · have : k = P.length := by omega
    subst this
    rw [List.drop_of_length_le (by omega), List.drop_of_length_le (Nat.le_refl _)] at hz
    have hz : true = R := hz
    subst hz
    repeat (first | refine aw_seq ?_ | refine aw_skip ?_ | refine aw_block ?_ | refine aw_exit ?_ | refine aw_cond rfl (fun _ => ?_) (fun hb => absurd hb (by decide)) | refine aw_cond rfl (fun hb => absurd hb (by decide)) (fun _ => ?_) | (refine aw_reg (fun K hK => ?_); simp -implicitDefEqProofs; refine hK _ ?_) | (refine aw_drw mixd (fun K hK => ?_); simp -implicitDefEqProofs; refine hK _ _ (by rfl) ?_) | fail)
    refine aw_ret (fin_ret ?_); simp -implicitDefEqProofs [FinP, resV, resT] <;> try rfl
  have hkA : k < A.length := by omega
  obtain ⟨⟨ax, al⟩, ha⟩ : ∃ a, A[k]? = some a := ⟨_, List.getElem?_eq_getElem hkA⟩
  have ha' := (List.getElem?_eq_some_iff.1 ha).2
  obtain ⟨⟨px, pl⟩, hp⟩ : ∃ a, P[k]? = some a := ⟨_, List.getElem?_eq_getElem hkl⟩
  have hp' := (List.getElem?_eq_some_iff.1 hp).2
  have w2 : IntKind.i64.wrap ((k : Nat) + 1 : Int) = (k : Nat) + 1 := i64i _ (by omega) (by omega)
  have hdA : A.drop k = .mk ax al :: A.drop (k + 1) := by rw [List.drop_eq_getElem_cons hkA, ha']
  have hdP : P.drop k = .mk px pl :: P.drop (k + 1) := by rw [List.drop_eq_getElem_cons hkl, hp']
  rw [hdA, hdP] at hz
  unfold fitB at hz
  rw [Tr.kids] at hz
  by_cases h1 : pl.length = 1; rotate_left
  · rw [decide_eq_false h1] at hz
    have hz : false = R := hz
    subst hz
    have h1' : ¬ (pl.length : Int) = 1 := by omega
    repeat (first | refine aw_seq ?_ | refine aw_skip ?_ | refine aw_block ?_ | refine aw_exit ?_ | refine aw_cond rfl (fun _ => ?_) (fun hb => absurd hb (by decide)) | refine aw_cond rfl (fun hb => absurd hb (by decide)) (fun _ => ?_) | (refine aw_reg (fun K hK => ?_); simp -implicitDefEqProofs [hkl, hkA, ha, ha', hp, hp', h1, h1']; refine hK _ ?_) | (refine aw_drw mixd (fun K hK => ?_); simp -implicitDefEqProofs [hkl, hkA, ha, ha', hp, hp', h1, h1']; refine hK _ _ (by rfl) ?_) | fail)
    refine aw_ret (fin_ret ?_); simp -implicitDefEqProofs [FinP, resV, resT] <;> try rfl
  obtain ⟨⟨ux, ul⟩, rfl⟩ := one_of h1
  have hps := hP _ (List.mem_of_getElem? hp)
  have hus := Tr.size_at (x := px) (l := [.mk ux ul]) (i := 0) rfl
  have hb := rbare_row (.mk ux ul) (by omega)
  have hs := rsame_row (.mk ax al) (hA _ (List.mem_of_getElem? ha)) (barT (.mk ux ul)) (by rw [barT_size]; omega)
  rw [show [Tr.mk ux ul].getD 0 z0T = .mk ux ul from rfl, decide_eq_true h1, Bool.true_and] at hz
  obtain ⟨⟨bx, bl⟩, hbb⟩ : ∃ b, barT (.mk ux ul) = b := ⟨_, rfl⟩
  rw [hbb] at hb hs hz
  obtain ⟨sm, hsm⟩ : ∃ b, same (.mk ax al) (.mk bx bl) = b := ⟨_, rfl⟩
  rw [hsm] at hs hz
  clear hbb hsm hdA hdP
  cases sm with
  | false =>
    have hz : false = R := hz
    subst hz
    repeat' (first | refine aw_seq ?_ | refine aw_skip ?_ | refine aw_block ?_ | refine aw_exit ?_ | refine aw_cond rfl (fun _ => ?_) (fun hb => absurd hb (by decide)) | refine aw_cond rfl (fun hb => absurd hb (by decide)) (fun _ => ?_) | (refine aw_reg (fun K hK => ?_); simp -implicitDefEqProofs [hkl, hkA, ha, ha', hp, hp', w2]) | (refine aw_drw mixd (fun K hK => ?_); simp -implicitDefEqProofs [hkl, hkA, ha, ha', hp, hp', w2]) | refine hK _ ?_ | refine hK _ _ (by rfl) ?_ | (refine ar_call (cp hb ?_); simp -implicitDefEqProofs [hkl, hkA, ha, ha', hp, hp', w2]) | (refine ard_call (dp hb ?_); simp -implicitDefEqProofs [hkl, hkA, ha, ha', hp, hp', w2]) | (refine ar_call (cp hs ?_); simp -implicitDefEqProofs [hkl, hkA, ha, ha', hp, hp', w2]) | (refine ard_call (dp hs ?_); simp -implicitDefEqProofs [hkl, hkA, ha, ha', hp, hp', w2]) | fail)
    refine aw_ret (fin_ret ?_); simp -implicitDefEqProofs [FinP, resV, resT] <;> try rfl
  | true =>
    rw [Bool.true_and] at hz
    repeat' (first | refine aw_seq ?_ | refine aw_skip ?_ | refine aw_block ?_ | refine aw_exit ?_ | refine aw_cond rfl (fun _ => ?_) (fun hb => absurd hb (by decide)) | refine aw_cond rfl (fun hb => absurd hb (by decide)) (fun _ => ?_) | (refine aw_reg (fun K hK => ?_); simp -implicitDefEqProofs [hkl, hkA, ha, ha', hp, hp', w2]) | (refine aw_drw mixd (fun K hK => ?_); simp -implicitDefEqProofs [hkl, hkA, ha, ha', hp, hp', w2]) | refine hK _ ?_ | refine hK _ _ (by rfl) ?_ | (refine ar_call (cp hb ?_); simp -implicitDefEqProofs [hkl, hkA, ha, ha', hp, hp', w2]) | (refine ard_call (dp hb ?_); simp -implicitDefEqProofs [hkl, hkA, ha, ha', hp, hp', w2]) | (refine ar_call (cp hs ?_); simp -implicitDefEqProofs [hkl, hkA, ha, ha', hp, hp', w2]) | (refine ard_call (dp hs ?_); simp -implicitDefEqProofs [hkl, hkA, ha, ha', hp, hp', w2]) | fail)
    refine ⟨k + 1, ⟨by omega, hz⟩, (by dsimp only; omega), ?_⟩
    rw [hI]; exact cov_intro [] (by simp -implicitDefEqProofs) (by simp -implicitDefEqProofs) (by decide) rfl (by simp)
end Go.Proofs.Ythmdllhhmhbhbaa.am
end
section
namespace Go.Proofs.Ythmdllhhmhbhbaa.am
open Go.ChangeShapes Go.WideShapes Go.ChangeAt Go.RowKit
open vt
set_option linter.unusedVariables false
set_option linter.unusedSimpArgs false
noncomputable def aloT (m : VT) (L : List VT) (x : Lab) (l : List VT) : VT :=
  if x.k = 7 then barT (L.getD (L.length - 1 - x.n.toNat) z0T)
  else if x.k = 8 then litT ((m.kids.getD x.n.toNat z0T).kids.getD 0 z0T)
  else if x.k = 9 then barT ((m.kids.getD x.n.toNat z0T).kids.getD 0 z0T)
  else if x.k = 18 then tyT 1
  else litT (.mk x l)
set_option maxRecDepth 100000 in
set_option maxHeartbeats 4000000 in
theorem ralone_row (m : VT) (hsz : m.size ≤ 1000000) (L : List VT) (hL : ∀ t ∈ L, t.size ≤ 1000000) (hLl : L.length ≤ 1000000) (x : Lab) (l : List VT) (h7 : x.k = 7 → 0 ≤ x.n ∧ x.n < L.length) (h89 : x.k = 8 ∨ x.k = 9 → 0 ≤ x.n ∧ ∃ dx e, m.kids[x.n.toNat]? = some (.mk dx [e])) : Row Try.prog 55 [vT m, vLs L, vT (.mk x l)] [] (vT (aloT m L x l)) [] := by
  obtain ⟨mx, ml⟩ := m
  have hml := Tr.len_size (x := mx) (l := ml)
  have hint := rint_row
  have hlit := rlit_row (.mk x l)
  unfold aloT
  by_cases c7 : x.k = 7
  · rw [if_pos c7]
    obtain ⟨n0, n1⟩ := h7 c7
    obtain ⟨n, hn⟩ : ∃ n : Nat, x.n = n := ⟨x.n.toNat, by omega⟩
    rw [hn, Int.toNat_natCast]
    obtain ⟨j, hj⟩ : ∃ j, L.length - 1 - n = j := ⟨_, rfl⟩
    have hjl : j < L.length := by omega
    obtain ⟨⟨ax, al⟩, ha⟩ : ∃ a, L[j]? = some a := ⟨_, List.getElem?_eq_getElem hjl⟩
    have ha' := (List.getElem?_eq_some_iff.1 ha).2
    rw [hj, show L.getD j z0T = .mk ax al by simp [List.getD, ha]]
    have hb := rbare_row (.mk ax al) (hL _ (List.mem_of_getElem? ha))
    have w0 : IntKind.i64.wrap ((n : Nat) : Int) = (n : Nat) := i64i _ (by omega) (by omega)
    have w1 : IntKind.i64.wrap ((L.length : Nat) - 1 : Int) = (L.length : Nat) - 1 := i64i _ (by omega) (by omega)
    have w2 : IntKind.i64.wrap ((L.length : Nat) - 1 - (n : Nat) : Int) = (j : Nat) := by rw [i64i _ (by omega) (by omega)]; omega
    obtain ⟨⟨bx, bl⟩, hbb⟩ : ∃ b, barT (.mk ax al) = b := ⟨_, rfl⟩
    rw [hbb] at hb ⊢
    clear hbb hint hlit
    refine row_of Try.func55 rfl rfl (Nat.le_of_ble_eq_true rfl) ?_
    repeat' (first | refine aw_seq ?_ | refine aw_skip ?_ | refine aw_block ?_ | refine aw_exit ?_ | refine aw_cond rfl (fun _ => ?_) (fun hb => absurd hb (by decide)) | refine aw_cond rfl (fun hb => absurd hb (by decide)) (fun _ => ?_) | (refine aw_reg (fun K hK => ?_); simp -implicitDefEqProofs [c7, hn, hjl, ha, ha', w0, w1, w2]) | (refine aw_drw mixd (fun K hK => ?_); simp -implicitDefEqProofs [c7, hn, hjl, ha, ha', w0, w1, w2]) | refine hK _ ?_ | refine hK _ _ (by rfl) ?_ | (refine ar_call (cp hb ?_); simp -implicitDefEqProofs [c7, hn, hjl, ha, ha', w0, w1, w2]) | (refine ard_call (dp hb ?_); simp -implicitDefEqProofs [c7, hn, hjl, ha, ha', w0, w1, w2]) | fail)
    refine aw_ret (fin_ret ?_); simp -implicitDefEqProofs [FinP, resV, resT] <;> try rfl
  rw [if_neg c7]
  by_cases c8 : x.k = 8
  · rw [if_pos c8]
    obtain ⟨n0, dx, ⟨ex, el⟩, hd⟩ := h89 (.inl c8)
    rw [Tr.kids] at hd
    obtain ⟨n, hn⟩ : ∃ n : Nat, x.n = n := ⟨x.n.toNat, by omega⟩
    rw [hn, Int.toNat_natCast] at hd ⊢
    have hnl := (List.getElem?_eq_some_iff.1 hd).1
    have hd' := (List.getElem?_eq_some_iff.1 hd).2
    rw [Tr.kids, show ml.getD n z0T = .mk dx [.mk ex el] by simp [List.getD, hd], Tr.kids]
    have hl := rlit_row (.mk ex el)
    rw [show [Tr.mk ex el].getD 0 z0T = .mk ex el from rfl]
    have w0 : IntKind.i64.wrap ((n : Nat) : Int) = (n : Nat) := i64i _ (by omega) (by omega)
    obtain ⟨⟨bx, bl⟩, hbb⟩ : ∃ b, litT (.mk ex el) = b := ⟨_, rfl⟩
    rw [hbb] at hl ⊢
    clear hbb hint hlit
    refine row_of Try.func55 rfl rfl (Nat.le_of_ble_eq_true rfl) ?_
    repeat' (first | refine aw_seq ?_ | refine aw_skip ?_ | refine aw_block ?_ | refine aw_exit ?_ | refine aw_cond rfl (fun _ => ?_) (fun hb => absurd hb (by decide)) | refine aw_cond rfl (fun hb => absurd hb (by decide)) (fun _ => ?_) | (refine aw_reg (fun K hK => ?_); simp -implicitDefEqProofs [c8, hn, hnl, hd, hd', w0]) | (refine aw_drw mixd (fun K hK => ?_); simp -implicitDefEqProofs [c8, hn, hnl, hd, hd', w0]) | refine hK _ ?_ | refine hK _ _ (by rfl) ?_ | (refine ar_call (cp hl ?_); simp -implicitDefEqProofs [c8, hn, hnl, hd, hd', w0]) | (refine ard_call (dp hl ?_); simp -implicitDefEqProofs [c8, hn, hnl, hd, hd', w0]) | fail)
    refine aw_ret (fin_ret ?_); simp -implicitDefEqProofs [FinP, resV, resT] <;> try rfl
  rw [if_neg c8]
  by_cases c9 : x.k = 9
  · rw [if_pos c9]
    obtain ⟨n0, dx, ⟨ex, el⟩, hd⟩ := h89 (.inr c9)
    rw [Tr.kids] at hd
    obtain ⟨n, hn⟩ : ∃ n : Nat, x.n = n := ⟨x.n.toNat, by omega⟩
    rw [hn, Int.toNat_natCast] at hd ⊢
    have hnl := (List.getElem?_eq_some_iff.1 hd).1
    have hd' := (List.getElem?_eq_some_iff.1 hd).2
    have s1 := Tr.size_at (x := mx) hd
    have s2 := Tr.size_at (x := dx) (l := [.mk ex el]) (i := 0) rfl
    rw [Tr.kids, show ml.getD n z0T = .mk dx [.mk ex el] by simp [List.getD, hd], Tr.kids]
    have hl := rbare_row (.mk ex el) (by omega)
    rw [show [Tr.mk ex el].getD 0 z0T = .mk ex el from rfl]
    have w0 : IntKind.i64.wrap ((n : Nat) : Int) = (n : Nat) := i64i _ (by omega) (by omega)
    obtain ⟨⟨bx, bl⟩, hbb⟩ : ∃ b, barT (.mk ex el) = b := ⟨_, rfl⟩
    rw [hbb] at hl ⊢
    clear hbb hint hlit
    refine row_of Try.func55 rfl rfl (Nat.le_of_ble_eq_true rfl) ?_
    repeat' (first | refine aw_seq ?_ | refine aw_skip ?_ | refine aw_block ?_ | refine aw_exit ?_ | refine aw_cond rfl (fun _ => ?_) (fun hb => absurd hb (by decide)) | refine aw_cond rfl (fun hb => absurd hb (by decide)) (fun _ => ?_) | (refine aw_reg (fun K hK => ?_); simp -implicitDefEqProofs [c9, hn, hnl, hd, hd', w0]) | (refine aw_drw mixd (fun K hK => ?_); simp -implicitDefEqProofs [c9, hn, hnl, hd, hd', w0]) | refine hK _ ?_ | refine hK _ _ (by rfl) ?_ | (refine ar_call (cp hl ?_); simp -implicitDefEqProofs [c9, hn, hnl, hd, hd', w0]) | (refine ard_call (dp hl ?_); simp -implicitDefEqProofs [c9, hn, hnl, hd, hd', w0]) | fail)
    refine aw_ret (fin_ret ?_); simp -implicitDefEqProofs [FinP, resV, resT] <;> try rfl
  rw [if_neg c9]
  by_cases c18 : x.k = 18
  · rw [if_pos c18]
    unfold tyT at hint ⊢
    clear hlit
    refine row_of Try.func55 rfl rfl (Nat.le_of_ble_eq_true rfl) ?_
    repeat' (first | refine aw_seq ?_ | refine aw_skip ?_ | refine aw_block ?_ | refine aw_exit ?_ | refine aw_cond rfl (fun _ => ?_) (fun hb => absurd hb (by decide)) | refine aw_cond rfl (fun hb => absurd hb (by decide)) (fun _ => ?_) | (refine aw_reg (fun K hK => ?_); simp -implicitDefEqProofs [c7, c8, c9, c18]) | (refine aw_drw mixd (fun K hK => ?_); simp -implicitDefEqProofs [c7, c8, c9, c18]) | refine hK _ ?_ | refine hK _ _ (by rfl) ?_ | (refine ar_call (cp hint ?_); simp -implicitDefEqProofs [c7, c8, c9, c18]) | (refine ard_call (dp hint ?_); simp -implicitDefEqProofs [c7, c8, c9, c18]) | fail)
    refine aw_ret (fin_ret ?_); simp -implicitDefEqProofs [FinP, resV, resT] <;> try rfl
  rw [if_neg c18]
  obtain ⟨⟨bx, bl⟩, hbb⟩ : ∃ b, litT (.mk x l) = b := ⟨_, rfl⟩
  rw [hbb] at hlit ⊢
  clear hbb hint
  refine row_of Try.func55 rfl rfl (Nat.le_of_ble_eq_true rfl) ?_
  repeat' (first | refine aw_seq ?_ | refine aw_skip ?_ | refine aw_block ?_ | refine aw_exit ?_ | refine aw_cond rfl (fun _ => ?_) (fun hb => absurd hb (by decide)) | refine aw_cond rfl (fun hb => absurd hb (by decide)) (fun _ => ?_) | (refine aw_reg (fun K hK => ?_); simp -implicitDefEqProofs [c7, c8, c9, c18]) | (refine aw_drw mixd (fun K hK => ?_); simp -implicitDefEqProofs [c7, c8, c9, c18]) | refine hK _ ?_ | refine hK _ _ (by rfl) ?_ | (refine ar_call (cp hlit ?_); simp -implicitDefEqProofs [c7, c8, c9, c18]) | (refine ard_call (dp hlit ?_); simp -implicitDefEqProofs [c7, c8, c9, c18]) | fail)
  refine aw_ret (fin_ret ?_); simp -implicitDefEqProofs [FinP, resV, resT] <;> try rfl
end Go.Proofs.Ythmdllhhmhbhbaa.am
end
section
namespace Go.Proofs.Ythmdllhhmhbhbaa.am
open Go.ChangeShapes Go.WideShapes Go.ChangeAt Go.RowKit
open vt
set_option linter.unusedVariables false
set_option linter.unusedSimpArgs false
def fieldN (m : VT) (x : Lab) (n : Int) : Int :=
  if hasB m n 30 = true then
    (if x.s = ⟨#[]⟩ then (if (fldA m x.n).isSome = true ∧ x.n / 64 = n then x.n else -1)
     else match ((m.kids.getD n.toNat z0T).kids.take 64).findIdx? (fun q => decide (q.lab.s = x.s)) with
       | some i => n * 64 + i
       | none => -1)
  else -1
theorem fldA_pos {m : VT} {n : Int} (h : (fldA m n).isSome = true) : 0 ≤ n := by
  unfold fldA at h
  split at h
  · cases h
  · omega
theorem fidx_at {p : List VT} {s : ByteArray} {k : Nat} {q : VT} (hq : p[k]? = some q) (hk : k < 64) (hno : ∀ i q', i < k → p[i]? = some q' → q'.lab.s ≠ s) (he : q.lab.s = s) : (p.take 64).findIdx? (fun q => decide (q.lab.s = s)) = some k := by
  obtain ⟨h1, h2⟩ := List.getElem?_eq_some_iff.1 hq
  refine List.findIdx?_eq_some_iff_getElem.2 ⟨by rw [List.length_take]; omega, ?_, fun i hi => ?_⟩
  · rw [List.getElem_take, h2]; simpa using he
  · rw [List.getElem_take]
    have := hno i (p[i]'(by omega)) hi (List.getElem?_eq_getElem _)
    simpa using this
theorem fidx_no {p : List VT} {s : ByteArray} (hno : ∀ i q', i < 64 → p[i]? = some q' → q'.lab.s ≠ s) : (p.take 64).findIdx? (fun q => decide (q.lab.s = s)) = none := by
  refine List.findIdx?_eq_none_iff.2 (fun q hq => ?_)
  obtain ⟨i, hi, e⟩ := List.mem_iff_getElem.1 hq
  rw [List.length_take] at hi
  rw [List.getElem_take] at e
  have := hno i q (by omega) (by rw [← e]; exact List.getElem?_eq_getElem _)
  simpa using this
set_option maxRecDepth 100000 in
set_option maxHeartbeats 4000000 in
theorem rfieldN_row (m : VT) (hsz : m.size ≤ 1000000) (x : Lab) (l : List VT) (hx : x.ok) (n : Int) (hn : n ≤ 9223372036854775807) : Row Try.prog 60 [vT m, vT (.mk x l), vI n] [] (vI (fieldN m x n)) [] := by
  have hh := rhas_row m hsz n 30 hn
  have hf := rfield_row m hsz x.n hx.2.1.2
  unfold fieldN
  by_cases hb : hasB m n 30 = true; rotate_left
  · have hb : hasB m n 30 = false := by simpa using hb
    rw [hb] at hh ⊢
    rw [if_neg (by simp)]
    clear hf
    obtain ⟨mx, ml⟩ := m
    refine row_of Try.func60 rfl rfl (Nat.le_of_ble_eq_true rfl) ?_
    repeat' (first | refine aw_seq ?_ | refine aw_skip ?_ | refine aw_block ?_ | refine aw_exit ?_ | refine aw_cond rfl (fun _ => ?_) (fun hb => absurd hb (by decide)) | refine aw_cond rfl (fun hb => absurd hb (by decide)) (fun _ => ?_) | (refine aw_reg (fun K hK => ?_); simp -implicitDefEqProofs) | (refine aw_drw mixd (fun K hK => ?_); simp -implicitDefEqProofs) | refine hK _ ?_ | refine hK _ _ (by rfl) ?_ | (refine ar_call (cp hh ?_); simp -implicitDefEqProofs) | (refine ard_call (dp hh ?_); simp -implicitDefEqProofs) | fail)
    refine aw_ret (fin_ret ?_); simp -implicitDefEqProofs [FinP, resV, resT] <;> try rfl
  rw [if_pos hb]
  by_cases hs : x.s = ⟨#[]⟩
  · rw [if_pos hs]
    rw [hb] at hh
    by_cases ho : (fldA m x.n).isSome = true; rotate_left
    · rw [if_neg (fun h => ho h.1)]
      have ho : (fldA m x.n).isSome = false := by simpa using ho
      rw [ho] at hf
      obtain ⟨⟨tx, tl⟩, ht⟩ : ∃ t, (fldA m x.n).getD z0T = t := ⟨_, rfl⟩
      rw [ht] at hf
      clear ht ho hb
      obtain ⟨mx, ml⟩ := m
      refine row_of Try.func60 rfl rfl (Nat.le_of_ble_eq_true rfl) ?_
      repeat' (first | refine aw_seq ?_ | refine aw_skip ?_ | refine aw_block ?_ | refine aw_exit ?_ | refine aw_cond rfl (fun _ => ?_) (fun hb => absurd hb (by decide)) | refine aw_cond rfl (fun hb => absurd hb (by decide)) (fun _ => ?_) | (refine aw_reg (fun K hK => ?_); simp -implicitDefEqProofs [hs]) | (refine aw_drw mixd (fun K hK => ?_); simp -implicitDefEqProofs [hs]) | refine hK _ ?_ | refine hK _ _ (by rfl) ?_ | (refine ar_call (cp hh ?_); simp -implicitDefEqProofs [hs]) | (refine ard_call (dp hh ?_); simp -implicitDefEqProofs [hs]) | (refine ar_call (cp hf ?_); simp -implicitDefEqProofs [hs]) | (refine ard_call (dp hf ?_); simp -implicitDefEqProofs [hs]) | fail)
      refine aw_ret (fin_ret ?_); simp -implicitDefEqProofs [FinP, resV, resT] <;> try rfl
    have hp := fldA_pos ho
    have w1 : IntKind.i64.wrap (x.n.tdiv 64) = x.n / 64 := by
      rw [Int.tdiv_eq_ediv_of_nonneg hp]
      exact i64i _ (by omega) (by have := hx.2.1.2; omega)
    rw [ho] at hf
    obtain ⟨⟨tx, tl⟩, ht⟩ : ∃ t, (fldA m x.n).getD z0T = t := ⟨_, rfl⟩
    rw [ht] at hf
    by_cases hq : x.n / 64 = n
    · rw [if_pos ⟨ho, hq⟩]
      clear ht ho hb
      obtain ⟨mx, ml⟩ := m
      refine row_of Try.func60 rfl rfl (Nat.le_of_ble_eq_true rfl) ?_
      repeat' (first | refine aw_seq ?_ | refine aw_skip ?_ | refine aw_block ?_ | refine aw_exit ?_ | refine aw_cond rfl (fun _ => ?_) (fun hb => absurd hb (by decide)) | refine aw_cond rfl (fun hb => absurd hb (by decide)) (fun _ => ?_) | (refine aw_reg (fun K hK => ?_); simp -implicitDefEqProofs [hs, w1, hq]) | (refine aw_drw mixd (fun K hK => ?_); simp -implicitDefEqProofs [hs, w1, hq]) | refine hK _ ?_ | refine hK _ _ (by rfl) ?_ | (refine ar_call (cp hh ?_); simp -implicitDefEqProofs [hs, w1, hq]) | (refine ard_call (dp hh ?_); simp -implicitDefEqProofs [hs, w1, hq]) | (refine ar_call (cp hf ?_); simp -implicitDefEqProofs [hs, w1, hq]) | (refine ard_call (dp hf ?_); simp -implicitDefEqProofs [hs, w1, hq]) | fail)
      refine aw_ret (fin_ret ?_); simp -implicitDefEqProofs [FinP, resV, resT] <;> try rfl
    · rw [if_neg (fun h => hq h.2)]
      clear ht ho hb
      obtain ⟨mx, ml⟩ := m
      refine row_of Try.func60 rfl rfl (Nat.le_of_ble_eq_true rfl) ?_
      repeat' (first | refine aw_seq ?_ | refine aw_skip ?_ | refine aw_block ?_ | refine aw_exit ?_ | refine aw_cond rfl (fun _ => ?_) (fun hb => absurd hb (by decide)) | refine aw_cond rfl (fun hb => absurd hb (by decide)) (fun _ => ?_) | (refine aw_reg (fun K hK => ?_); simp -implicitDefEqProofs [hs, w1, hq]) | (refine aw_drw mixd (fun K hK => ?_); simp -implicitDefEqProofs [hs, w1, hq]) | refine hK _ ?_ | refine hK _ _ (by rfl) ?_ | (refine ar_call (cp hh ?_); simp -implicitDefEqProofs [hs, w1, hq]) | (refine ard_call (dp hh ?_); simp -implicitDefEqProofs [hs, w1, hq]) | (refine ar_call (cp hf ?_); simp -implicitDefEqProofs [hs, w1, hq]) | (refine ard_call (dp hf ?_); simp -implicitDefEqProofs [hs, w1, hq]) | fail)
      refine aw_ret (fin_ret ?_); simp -implicitDefEqProofs [FinP, resV, resT] <;> try rfl
  rw [if_neg hs]
  obtain ⟨mx, ml⟩ := m
  have hml := Tr.len_size (x := mx) (l := ml)
  have n0 : ¬ n < 0 := fun h => by unfold hasB at hb; rw [if_pos h] at hb; cases hb
  obtain ⟨a, rfl⟩ : ∃ N : Nat, n = N := ⟨n.toNat, by omega⟩
  have hal : a < ml.length := Classical.byContradiction fun h => by
    unfold hasB at hb; rw [if_neg n0, Int.toNat_natCast, Tr.kids, List.getElem?_eq_none (by omega)] at hb; cases hb
  rw [hb] at hh
  obtain ⟨⟨y, p⟩, hd⟩ : ∃ d, ml[a]? = some d := ⟨_, List.getElem?_eq_getElem hal⟩
  have hd' := (List.getElem?_eq_some_iff.1 hd).2
  have hdz := Tr.size_at (x := mx) hd
  have hpl := Tr.len_size (x := y) (l := p)
  have w1 : IntKind.i64.wrap ((a : Nat) : Int) = (a : Nat) := i64i _ (by omega) (by omega)
  have w3 : IntKind.i64.wrap ((a : Nat) * 64 : Int) = (a : Nat) * 64 := i64i _ (by omega) (by omega)
  rw [Int.toNat_natCast, Tr.kids, show ml.getD a z0T = .mk y p by simp [List.getD, hd], Tr.kids]
  clear hf hb
  refine row_of Try.func60 rfl rfl (Nat.le_of_ble_eq_true rfl) ?_
  repeat' (first | refine aw_seq ?_ | refine aw_skip ?_ | refine aw_block ?_ | refine aw_exit ?_ | refine aw_cond rfl (fun _ => ?_) (fun hb => absurd hb (by decide)) | refine aw_cond rfl (fun hb => absurd hb (by decide)) (fun _ => ?_) | (refine aw_reg (fun K hK => ?_); simp -implicitDefEqProofs [hs, hal, hd, hd', w1]) | (refine aw_drw mixd (fun K hK => ?_); simp -implicitDefEqProofs [hs, hal, hd, hd', w1]) | refine hK _ ?_ | refine hK _ _ (by rfl) ?_ | (refine ar_call (cp hh ?_); simp -implicitDefEqProofs [hs, hal, hd, hd', w1]) | (refine ard_call (dp hh ?_); simp -implicitDefEqProofs [hs, hal, hd, hd', w1]) | fail)
  have hat := fun k q hq hk hno he => fidx_at (p := p) (s := x.s) (k := k) (q := q) hq hk hno he
  have hnone := fidx_no (p := p) (s := x.s)
  obtain ⟨F, hF⟩ : ∃ F, (p.take 64).findIdx? (fun q => decide (q.lab.s = x.s)) = F := ⟨_, rfl⟩
  rw [hF] at hnone ⊢
  simp only [hF] at hat
  clear hF hh
  refine aw_lp (ι := Nat) (fun k => mkSt [(2, vI (a : Nat)), (4, .v (.c (.ptr 0 0))), (9, .v (.c (.ptr 1 0))), (10, vI (k : Nat))] [some (.box (ta (.mk x l))), some (.box (ta (.mk y p)))]) (fun k => k ≤ p.length ∧ k ≤ 64 ∧ ∀ i q', i < k → p[i]? = some q' → q'.lab.s ≠ x.s) (fun k => p.length - k) 0 ⟨Nat.zero_le _, by omega, fun i q' h => by omega⟩ (cov_intro [1, 22] (by simp -implicitDefEqProofs) (by simp -implicitDefEqProofs) (by decide) rfl (by simp)) (fun Z hI k hk => ?_)
  obtain ⟨hk, hk2, hz⟩ := hk
  by_cases hkl : k < p.length; rotate_left
  · have : k = p.length := by omega
    subst this
    have hF := hnone (fun i q' hi hq => hz i q' (List.getElem?_eq_some_iff.1 hq).1 hq)
    subst hF
    clear hat hnone
    repeat (first | refine aw_seq ?_ | refine aw_skip ?_ | refine aw_block ?_ | refine aw_exit ?_ | refine aw_cond rfl (fun _ => ?_) (fun hb => absurd hb (by decide)) | refine aw_cond rfl (fun hb => absurd hb (by decide)) (fun _ => ?_) | (refine aw_reg (fun K hK => ?_); simp -implicitDefEqProofs; refine hK _ ?_) | (refine aw_drw mixd (fun K hK => ?_); simp -implicitDefEqProofs; refine hK _ _ (by rfl) ?_) | fail)
    refine aw_ret (fin_ret ?_); simp -implicitDefEqProofs [FinP, resV, resT] <;> try rfl
  by_cases hk64 : k < 64; rotate_left
  · have hF := hnone (fun i q' hi hq => hz i q' (by omega) hq)
    subst hF
    have hk64' : ¬ ((k : Nat) : Int) < 64 := by omega
    clear hat hnone
    repeat (first | refine aw_seq ?_ | refine aw_skip ?_ | refine aw_block ?_ | refine aw_exit ?_ | refine aw_cond rfl (fun _ => ?_) (fun hb => absurd hb (by decide)) | refine aw_cond rfl (fun hb => absurd hb (by decide)) (fun _ => ?_) | (refine aw_reg (fun K hK => ?_); simp -implicitDefEqProofs [hkl, hk64, hk64']; refine hK _ ?_) | (refine aw_drw mixd (fun K hK => ?_); simp -implicitDefEqProofs [hkl, hk64, hk64']; refine hK _ _ (by rfl) ?_) | fail)
    refine aw_ret (fin_ret ?_); simp -implicitDefEqProofs [FinP, resV, resT] <;> try rfl
  have hk64' : ((k : Nat) : Int) < 64 := by omega
  obtain ⟨⟨qx, ql⟩, hq⟩ : ∃ q, p[k]? = some q := ⟨_, List.getElem?_eq_getElem hkl⟩
  have hq' := (List.getElem?_eq_some_iff.1 hq).2
  have w2 : IntKind.i64.wrap ((k : Nat) + 1 : Int) = (k : Nat) + 1 := i64i _ (by omega) (by omega)
  have w4 : IntKind.i64.wrap ((k : Nat) : Int) = (k : Nat) := i64i _ (by omega) (by omega)
  have w5 : IntKind.i64.wrap ((a : Nat) * 64 + (k : Nat) : Int) = (a : Nat) * 64 + (k : Nat) := i64i _ (by omega) (by omega)
  by_cases he : qx.s = x.s
  · have hF := hat k _ hq hk64 hz he
    subst hF
    clear hat hnone
    repeat (first | refine aw_seq ?_ | refine aw_skip ?_ | refine aw_block ?_ | refine aw_exit ?_ | refine aw_cond rfl (fun _ => ?_) (fun hb => absurd hb (by decide)) | refine aw_cond rfl (fun hb => absurd hb (by decide)) (fun _ => ?_) | (refine aw_reg (fun K hK => ?_); simp -implicitDefEqProofs [hkl, hk64, hk64', hq, hq', he, w1, w3, w4, w5]; refine hK _ ?_) | (refine aw_drw mixd (fun K hK => ?_); simp -implicitDefEqProofs [hkl, hk64, hk64', hq, hq', he, w1, w3, w4, w5]; refine hK _ _ (by rfl) ?_) | fail)
    refine aw_ret (fin_ret ?_); simp -implicitDefEqProofs [FinP, resV, resT] <;> try rfl
  · clear hat hnone
    repeat (first | refine aw_seq ?_ | refine aw_skip ?_ | refine aw_block ?_ | refine aw_exit ?_ | refine aw_cond rfl (fun _ => ?_) (fun hb => absurd hb (by decide)) | refine aw_cond rfl (fun hb => absurd hb (by decide)) (fun _ => ?_) | (refine aw_reg (fun K hK => ?_); simp -implicitDefEqProofs [hkl, hk64, hk64', hq, hq', he, w2]; refine hK _ ?_) | (refine aw_drw mixd (fun K hK => ?_); simp -implicitDefEqProofs [hkl, hk64, hk64', hq, hq', he, w2]; refine hK _ _ (by rfl) ?_) | fail)
    refine ⟨k + 1, ⟨by omega, by omega, fun i q' hi hq2 => ?_⟩, (by dsimp only; omega), ?_⟩
    · by_cases hik : i = k
      · subst hik; rw [hq] at hq2; cases hq2; exact he
      · exact hz i q' (by omega) hq2
    · rw [hI]; exact cov_intro [0, 1] (by simp -implicitDefEqProofs) (by simp -implicitDefEqProofs) (by decide) rfl (by simp)
end Go.Proofs.Ythmdllhhmhbhbaa.am
end
