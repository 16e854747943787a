import Derived.Test.YtjjnboenehomgaaPkF13
import Derived.Test.YtjjnboenehomgaaPkF11
section
namespace Go.Proofs.Ytjjnboenehomgaa.am
open Go.ChangeShapes Go.WideShapes Go.ChangeAt Go.RowKit
open vt
set_option linter.unusedVariables false
set_option linter.unusedSimpArgs false
theorem last_of (L : List VT) (h : L ≠ []) : ∃ I x l, L = I ++ [.mk x l] := by
  refine ⟨L.dropLast, (L.getLast h).lab, (L.getLast h).kids, ?_⟩
  conv => lhs; rw [← List.dropLast_concat_getLast h]
  generalize L.getLast h = t
  cases t; rfl
theorem cells_get (E : List (List PV)) (c : List PV) : (E ++ [c])[E.length]? = some c := by simp
theorem cells_take (E : List (List PV)) (c : List PV) : (E ++ [c]).take E.length = E := by simp
set_option maxRecDepth 100000 in
set_option maxHeartbeats 4000000 in
theorem quiet_row (t : VT) (ht : in64 t) (hs : t.size ≤ 1000000) : Row Try.prog 81 [vT t] [] (vB (quT t)) [] := by
  obtain ⟨q, hq⟩ : ∃ q, quT t = q := ⟨_, rfl⟩
  have hin : (∀ y ∈ [t], in64 y) ∧ ([t].map Tr.size).sum ≤ 1000000 ∧ [t].all quT = q := ⟨by simpa using ht, by simpa using hs, by simpa using hq⟩
  rw [hq]
  obtain ⟨tx, tl⟩ := t
  refine row_of Try.func81 rfl rfl (Nat.le_of_ble_eq_true rfl) ?_
  refine aw_seq ?_
  refine aw_reg (fun K hK => ?_); simp -implicitDefEqProofs; refine hK _ ?_
  refine aw_scope ?_
  refine aw_seq ?_
  refine aw_big (by dsimp only; omega) ?_; dsimp only
  refine aw_reg (fun K hK => ?_); simp -implicitDefEqProofs; refine hK _ ?_
  refine aw_seq ?_
  refine aw_reg (fun K hK => ?_); simp -implicitDefEqProofs; refine hK _ ?_
  refine aw_seq ?_
  refine aw_label ?_
  repeat (first | refine aw_seq ?_ | refine aw_skip ?_ | refine aw_block ?_ | refine aw_exit ?_ | refine aw_cond rfl (fun _ => ?_) (fun hb => absurd hb (by decide)) | refine aw_cond rfl (fun hb => absurd hb (by decide)) (fun _ => ?_) | (refine aw_reg (fun K hK => ?_); simp -implicitDefEqProofs; refine hK _ ?_) | (refine aw_drw mixd (fun K hK => ?_); simp -implicitDefEqProofs; refine hK _ _ (by rfl) ?_) | fail)
  refine aw_lp (ι := List VT) (fun L => mkSt [(3, .v (.c (.arr 0 6 (L.map tc).length))), (4, vB true)] [some (.arr 24 6 (L.map tc))]) (fun L => (∀ y ∈ L, in64 y) ∧ (L.map Tr.size).sum ≤ 1000000 ∧ L.all quT = q) (fun L => (L.map Tr.size).sum) [.mk tx tl] hin (cov_intro [1000001] (by simp -implicitDefEqProofs) (by simp -implicitDefEqProofs) (by decide) rfl (by simp)) (fun Z hI L hL => ?_)
  obtain ⟨i1, i2, i3⟩ := hL
  by_cases h0 : L = []
  · subst h0
    have : q = true := by rw [← i3]; rfl
    subst this
    repeat (first | refine aw_seq ?_ | refine aw_skip ?_ | refine aw_block ?_ | refine aw_exit ?_ | refine aw_cond rfl (fun _ => ?_) (fun hb => absurd hb (by decide)) | refine aw_cond rfl (fun hb => absurd hb (by decide)) (fun _ => ?_) | (refine aw_reg (fun K hK => ?_); simp -implicitDefEqProofs; refine hK _ ?_) | (refine aw_drw mixd (fun K hK => ?_); simp -implicitDefEqProofs; refine hK _ _ (by rfl) ?_) | fail)
    refine aw_ret (fin_ret ?_); simp -implicitDefEqProofs [FinP, resV, resT] <;> try rfl
  obtain ⟨I, x, l, rfl⟩ := last_of L h0
  have h1 := i1 (.mk x l) (by simp)
  have hlen := Tr.len_size (x := x) (l := l)
  rw [List.map_append, List.sum_append] at i2
  simp only [List.map_cons, List.map_nil, List.sum_cons, List.sum_nil] at i2
  rw [List.all_append] at i3
  simp only [List.all_cons, List.all_nil, Bool.and_true] at i3
  rw [quT_mk] at i3
  have hIl : I.length ≤ (I.map Tr.size).sum := by
    clear i1 i2 i3 h0
    induction I with
    | nil => simp
    | cons a I ih => have := Tr.len_size (x := a.lab) (l := a.kids); have e : a = .mk a.lab a.kids := by cases a; rfl
                     rw [← e] at this; simp only [List.map_cons, List.sum_cons, List.length_cons]; omega
  have em : (I ++ [Tr.mk x l]).map tc = I.map tc ++ [tc (.mk x l)] := by simp
  have en : (I ++ l).map tc = I.map tc ++ l.map tc := by simp
  have hnx : (∀ y ∈ I ++ l, in64 y) ∧ ((I ++ l).map Tr.size).sum ≤ 1000000 ∧ ((I ++ l).map Tr.size).sum < ((I ++ [Tr.mk x l]).map Tr.size).sum := by
    refine ⟨fun y hy => ?_, ?_, ?_⟩
    · rcases List.mem_append.1 hy with h | h
      · exact i1 y (by simp [h])
      · exact kid_ok h1 h
    · rw [Tr.size_mk] at i2; rw [List.map_append, List.sum_append]; omega
    · rw [List.map_append, List.sum_append, List.map_append, List.sum_append]
      simp only [List.map_cons, List.map_nil, List.sum_cons, List.sum_nil, Tr.size_mk]; omega
  rw [em]
  obtain ⟨E, hE⟩ : ∃ E, I.map tc = E := ⟨_, rfl⟩
  have hEl : E.length = I.length := by rw [← hE, List.length_map]
  rw [hE] at en ⊢
  have g1 := cells_get E (tc (.mk x l))
  have g2 := cells_take E (tc (.mk x l))
  obtain ⟨n, hn⟩ : ∃ n, E.length = n := ⟨_, rfl⟩
  rw [hn] at g1 g2 hEl
  rw [tc_mk] at g1 g2
  have w1 : IntKind.i64.wrap ((n : Nat) : Int) = (n : Nat) := i64i _ (by omega) (by omega)
  have b1 : (n + l.length) * 72 ≤ 140737488355328 := by omega
  have b2 : n + l.length ≤ 140737488355328 := by omega
  have lt1 : ((n : Nat) : Int) < (n : Nat) + 1 := by omega
  have lt2 : ((n : Nat) : Int) ≤ (n : Nat) + 1 := by omega
  have lt3 : ¬ ((n : Nat) : Int) + 1 ≤ 0 := by omega
  have hd := divides_row x l (by omega)
  have hq1 : okK x l = true → (∀ y ∈ I ++ l, in64 y) ∧ ((I ++ l).map Tr.size).sum ≤ 1000000 ∧ (I ++ l).all quT = q := fun h => ⟨hnx.1, hnx.2.1, by rw [← i3, h, List.all_append, Bool.true_and]⟩
  have hq2 : okK x l = false → q = false := fun h => by rw [← i3, h]; simp
  have hlt := hnx.2.2
  clear i1 i2 i3 h0 hnx hin ht hs hq
  by_cases h10 : x.k = 10
  · cases hb : divB x l with
    | false =>
      have hk := hq1 (by unfold okK; rw [if_pos h10, hb]; rfl)
      rw [hb] at hd
      clear hq1 hq2
      repeat' (first | refine aw_seq ?_ | refine aw_skip ?_ | refine aw_block ?_ | refine aw_exit ?_ | refine aw_cond rfl (fun _ => ?_) (fun hb => absurd hb (by decide)) | refine aw_cond rfl (fun hb => absurd hb (by decide)) (fun _ => ?_) | (refine aw_reg (fun K hK => ?_); simp -implicitDefEqProofs [hn, g1, g2, w1, b1, b2, lt1, lt2, h10]) | (refine aw_drw mixd (fun K hK => ?_); simp -implicitDefEqProofs [hn, g1, g2, w1, b1, b2, lt1, lt2, h10]) | refine hK _ ?_ | refine hK _ _ (by rfl) ?_ | (refine ar_call (cp hd ?_); simp -implicitDefEqProofs [hn, g1, g2, w1, b1, b2, lt1, lt2, h10]) | (refine ard_call (dp hd ?_); simp -implicitDefEqProofs [hn, g1, g2, w1, b1, b2, lt1, lt2, h10]) | fail)
      refine ⟨I ++ l, hk, hlt, ?_⟩
      rw [hI, en]; exact cov_intro [68] (by simp -implicitDefEqProofs [hn]) (by simp -implicitDefEqProofs [hn]) (by decide) rfl (by simp)
    | true =>
      have hk := hq2 (by unfold okK; rw [if_pos h10, hb]; rfl)
      rw [hb] at hd
      clear hq1 hq2
      subst hk
      repeat' (first | refine aw_seq ?_ | refine aw_skip ?_ | refine aw_block ?_ | refine aw_exit ?_ | refine aw_cond rfl (fun _ => ?_) (fun hb => absurd hb (by decide)) | refine aw_cond rfl (fun hb => absurd hb (by decide)) (fun _ => ?_) | (refine aw_reg (fun K hK => ?_); simp -implicitDefEqProofs [hn, g1, g2, w1, b1, b2, lt1, lt2, h10]) | (refine aw_drw mixd (fun K hK => ?_); simp -implicitDefEqProofs [hn, g1, g2, w1, b1, b2, lt1, lt2, h10]) | refine hK _ ?_ | refine hK _ _ (by rfl) ?_ | (refine ar_call (cp hd ?_); simp -implicitDefEqProofs [hn, g1, g2, w1, b1, b2, lt1, lt2, h10]) | (refine ard_call (dp hd ?_); simp -implicitDefEqProofs [hn, g1, g2, w1, b1, b2, lt1, lt2, h10]) | fail)
      refine aw_ret (fin_ret ?_); simp -implicitDefEqProofs [FinP, resV, resT] <;> try rfl
  by_cases hp : plK x.k = true
  · have hk := hq1 (by unfold okK; rw [if_neg h10, hp])
    clear hq1 hq2 hd
    rcases (plK_iff _).1 hp with h | h | h | h | h | h | h | h | h <;> ((repeat (first | refine aw_seq ?_ | refine aw_skip ?_ | refine aw_block ?_ | refine aw_exit ?_ | refine aw_cond rfl (fun _ => ?_) (fun hb => absurd hb (by decide)) | refine aw_cond rfl (fun hb => absurd hb (by decide)) (fun _ => ?_) | (refine aw_reg (fun K hK => ?_); simp -implicitDefEqProofs [hn, g1, g2, w1, b1, b2, lt1, lt2, h]; refine hK _ ?_) | (refine aw_drw mixd (fun K hK => ?_); simp -implicitDefEqProofs [hn, g1, g2, w1, b1, b2, lt1, lt2, h]; refine hK _ _ (by rfl) ?_) | fail)); (refine ⟨I ++ l, hk, hlt, ?_⟩); rw [hI, en]; exact cov_intro [68] (by simp -implicitDefEqProofs [hn, h]) (by simp -implicitDefEqProofs [hn, h]) (by decide) rfl (by simp))
  · have hp : plK x.k = false := by simpa using hp
    have hk := hq2 (by unfold okK; rw [if_neg h10, hp])
    obtain ⟨a1, a2, a3, a4, a5, a6, a7, a8, a9⟩ := (plK_no _).1 hp
    clear hq1 hq2 hd
    subst hk
    repeat (first | refine aw_seq ?_ | refine aw_skip ?_ | refine aw_block ?_ | refine aw_exit ?_ | refine aw_cond rfl (fun _ => ?_) (fun hb => absurd hb (by decide)) | refine aw_cond rfl (fun hb => absurd hb (by decide)) (fun _ => ?_) | (refine aw_reg (fun K hK => ?_); simp -implicitDefEqProofs [hn, g1, g2, w1, b1, b2, lt1, lt2, h10, a1, a2, a3, a4, a5, a6, a7, a8, a9]; refine hK _ ?_) | (refine aw_drw mixd (fun K hK => ?_); simp -implicitDefEqProofs [hn, g1, g2, w1, b1, b2, lt1, lt2, h10, a1, a2, a3, a4, a5, a6, a7, a8, a9]; refine hK _ _ (by rfl) ?_) | fail)
    refine aw_ret (fin_ret ?_); simp -implicitDefEqProofs [FinP, resV, resT] <;> try rfl
end Go.Proofs.Ytjjnboenehomgaa.am
end
section
namespace Go.Proofs.Ytjjnboenehomgaa.am
open Go.ChangeShapes Go.WideShapes Go.ChangeAt Go.RowKit
open vt
set_option linter.unusedVariables false
set_option linter.unusedSimpArgs false
def litB (x : Lab) (n : Nat) : Bool := decide (x.s = ⟨#[]⟩) && decide (n = 0) && (decide (x.k = 5) || (decide (x.k = 6) && (decide (x.n = 0) || decide (x.n = 1))))
set_option maxRecDepth 100000 in
set_option maxHeartbeats 4000000 in
theorem islit_row (x : Lab) (l : List VT) : Row Try.prog 45 [vT (.mk x l)] [] (vB (litB x l.length)) [] := by
  by_cases hs : x.s = ⟨#[]⟩; rotate_left
  · rw [show litB x l.length = false by simp [litB, hs]]
    refine row_of Try.func45 rfl rfl (Nat.le_of_ble_eq_true rfl) ?_
    repeat (first | refine aw_seq ?_ | refine aw_skip ?_ | refine aw_block ?_ | refine aw_exit ?_ | refine aw_cond rfl (fun _ => ?_) (fun hb => absurd hb (by decide)) | refine aw_cond rfl (fun hb => absurd hb (by decide)) (fun _ => ?_) | (refine aw_reg (fun K hK => ?_); simp -implicitDefEqProofs [hs]; refine hK _ ?_) | (refine aw_drw mixd (fun K hK => ?_); simp -implicitDefEqProofs [hs]; refine hK _ _ (by rfl) ?_) | fail)
    refine aw_ret (fin_ret ?_); simp -implicitDefEqProofs [FinP, resV, resT] <;> try rfl
  by_cases h0 : l.length = 0; rotate_left
  · have h0' : (0 : Int) < (l.length : Int) := by omega
    have h0'' : 0 < l.length := by omega
    rw [show litB x l.length = false by simp [litB, h0]]
    refine row_of Try.func45 rfl rfl (Nat.le_of_ble_eq_true rfl) ?_
    repeat (first | refine aw_seq ?_ | refine aw_skip ?_ | refine aw_block ?_ | refine aw_exit ?_ | refine aw_cond rfl (fun _ => ?_) (fun hb => absurd hb (by decide)) | refine aw_cond rfl (fun hb => absurd hb (by decide)) (fun _ => ?_) | (refine aw_reg (fun K hK => ?_); simp -implicitDefEqProofs [hs, h0, h0', h0'']; refine hK _ ?_) | (refine aw_drw mixd (fun K hK => ?_); simp -implicitDefEqProofs [hs, h0, h0', h0'']; refine hK _ _ (by rfl) ?_) | fail)
    refine aw_ret (fin_ret ?_); simp -implicitDefEqProofs [FinP, resV, resT] <;> try rfl
  obtain rfl := List.eq_nil_of_length_eq_zero h0
  by_cases h5 : x.k = 5
  · rw [show litB x ([] : List VT).length = true by simp [litB, hs, h5]]
    refine row_of Try.func45 rfl rfl (Nat.le_of_ble_eq_true rfl) ?_
    repeat (first | refine aw_seq ?_ | refine aw_skip ?_ | refine aw_block ?_ | refine aw_exit ?_ | refine aw_cond rfl (fun _ => ?_) (fun hb => absurd hb (by decide)) | refine aw_cond rfl (fun hb => absurd hb (by decide)) (fun _ => ?_) | (refine aw_reg (fun K hK => ?_); simp -implicitDefEqProofs [hs, h5]; refine hK _ ?_) | (refine aw_drw mixd (fun K hK => ?_); simp -implicitDefEqProofs [hs, h5]; refine hK _ _ (by rfl) ?_) | fail)
    refine aw_ret (fin_ret ?_); simp -implicitDefEqProofs [FinP, resV, resT] <;> try rfl
  by_cases h6 : x.k = 6; rotate_left
  · rw [show litB x ([] : List VT).length = false by simp [litB, h5, h6]]
    refine row_of Try.func45 rfl rfl (Nat.le_of_ble_eq_true rfl) ?_
    repeat (first | refine aw_seq ?_ | refine aw_skip ?_ | refine aw_block ?_ | refine aw_exit ?_ | refine aw_cond rfl (fun _ => ?_) (fun hb => absurd hb (by decide)) | refine aw_cond rfl (fun hb => absurd hb (by decide)) (fun _ => ?_) | (refine aw_reg (fun K hK => ?_); simp -implicitDefEqProofs [hs, h5, h6]; refine hK _ ?_) | (refine aw_drw mixd (fun K hK => ?_); simp -implicitDefEqProofs [hs, h5, h6]; refine hK _ _ (by rfl) ?_) | fail)
    refine aw_ret (fin_ret ?_); simp -implicitDefEqProofs [FinP, resV, resT] <;> try rfl
  by_cases n0 : x.n = 0
  · rw [show litB x ([] : List VT).length = true by simp [litB, hs, h6, n0]]
    refine row_of Try.func45 rfl rfl (Nat.le_of_ble_eq_true rfl) ?_
    repeat (first | refine aw_seq ?_ | refine aw_skip ?_ | refine aw_block ?_ | refine aw_exit ?_ | refine aw_cond rfl (fun _ => ?_) (fun hb => absurd hb (by decide)) | refine aw_cond rfl (fun hb => absurd hb (by decide)) (fun _ => ?_) | (refine aw_reg (fun K hK => ?_); simp -implicitDefEqProofs [hs, h6, n0]; refine hK _ ?_) | (refine aw_drw mixd (fun K hK => ?_); simp -implicitDefEqProofs [hs, h6, n0]; refine hK _ _ (by rfl) ?_) | fail)
    refine aw_ret (fin_ret ?_); simp -implicitDefEqProofs [FinP, resV, resT] <;> try rfl
  by_cases n1 : x.n = 1
  · rw [show litB x ([] : List VT).length = true by simp [litB, hs, h6, n1]]
    refine row_of Try.func45 rfl rfl (Nat.le_of_ble_eq_true rfl) ?_
    repeat (first | refine aw_seq ?_ | refine aw_skip ?_ | refine aw_block ?_ | refine aw_exit ?_ | refine aw_cond rfl (fun _ => ?_) (fun hb => absurd hb (by decide)) | refine aw_cond rfl (fun hb => absurd hb (by decide)) (fun _ => ?_) | (refine aw_reg (fun K hK => ?_); simp -implicitDefEqProofs [hs, h6, n1]; refine hK _ ?_) | (refine aw_drw mixd (fun K hK => ?_); simp -implicitDefEqProofs [hs, h6, n1]; refine hK _ _ (by rfl) ?_) | fail)
    refine aw_ret (fin_ret ?_); simp -implicitDefEqProofs [FinP, resV, resT] <;> try rfl
  · rw [show litB x ([] : List VT).length = false by simp [litB, h5, h6, n0, n1]]
    refine row_of Try.func45 rfl rfl (Nat.le_of_ble_eq_true rfl) ?_
    repeat (first | refine aw_seq ?_ | refine aw_skip ?_ | refine aw_block ?_ | refine aw_exit ?_ | refine aw_cond rfl (fun _ => ?_) (fun hb => absurd hb (by decide)) | refine aw_cond rfl (fun hb => absurd hb (by decide)) (fun _ => ?_) | (refine aw_reg (fun K hK => ?_); simp -implicitDefEqProofs [hs, h6, n0, n1]; refine hK _ ?_) | (refine aw_drw mixd (fun K hK => ?_); simp -implicitDefEqProofs [hs, h6, n0, n1]; refine hK _ _ (by rfl) ?_) | fail)
    refine aw_ret (fin_ret ?_); simp -implicitDefEqProofs [FinP, resV, resT] <;> try rfl
set_option maxRecDepth 100000 in
set_option maxHeartbeats 4000000 in
theorem rislit_row (x : Lab) (l : List VT) : Row Try.prog 50 [vT (.mk x l)] [] (vB (litB x l.length)) [] := by
  by_cases hs : x.s = ⟨#[]⟩; rotate_left
  · rw [show litB x l.length = false by simp [litB, hs]]
    refine row_of Try.func50 rfl rfl (Nat.le_of_ble_eq_true rfl) ?_
    repeat (first | refine aw_seq ?_ | refine aw_skip ?_ | refine aw_block ?_ | refine aw_exit ?_ | refine aw_cond rfl (fun _ => ?_) (fun hb => absurd hb (by decide)) | refine aw_cond rfl (fun hb => absurd hb (by decide)) (fun _ => ?_) | (refine aw_reg (fun K hK => ?_); simp -implicitDefEqProofs [hs]; refine hK _ ?_) | (refine aw_drw mixd (fun K hK => ?_); simp -implicitDefEqProofs [hs]; refine hK _ _ (by rfl) ?_) | fail)
    refine aw_ret (fin_ret ?_); simp -implicitDefEqProofs [FinP, resV, resT] <;> try rfl
  by_cases h0 : l.length = 0; rotate_left
  · have h0' : ¬ (l.length : Int) = 0 := by omega
    rw [show litB x l.length = false by simp [litB, h0]]
    refine row_of Try.func50 rfl rfl (Nat.le_of_ble_eq_true rfl) ?_
    repeat (first | refine aw_seq ?_ | refine aw_skip ?_ | refine aw_block ?_ | refine aw_exit ?_ | refine aw_cond rfl (fun _ => ?_) (fun hb => absurd hb (by decide)) | refine aw_cond rfl (fun hb => absurd hb (by decide)) (fun _ => ?_) | (refine aw_reg (fun K hK => ?_); simp -implicitDefEqProofs [hs, h0, h0']; refine hK _ ?_) | (refine aw_drw mixd (fun K hK => ?_); simp -implicitDefEqProofs [hs, h0, h0']; refine hK _ _ (by rfl) ?_) | fail)
    refine aw_ret (fin_ret ?_); simp -implicitDefEqProofs [FinP, resV, resT] <;> try rfl
  obtain rfl := List.eq_nil_of_length_eq_zero h0
  by_cases h5 : x.k = 5
  · rw [show litB x ([] : List VT).length = true by simp [litB, hs, h5]]
    refine row_of Try.func50 rfl rfl (Nat.le_of_ble_eq_true rfl) ?_
    repeat (first | refine aw_seq ?_ | refine aw_skip ?_ | refine aw_block ?_ | refine aw_exit ?_ | refine aw_cond rfl (fun _ => ?_) (fun hb => absurd hb (by decide)) | refine aw_cond rfl (fun hb => absurd hb (by decide)) (fun _ => ?_) | (refine aw_reg (fun K hK => ?_); simp -implicitDefEqProofs [hs, h5]; refine hK _ ?_) | (refine aw_drw mixd (fun K hK => ?_); simp -implicitDefEqProofs [hs, h5]; refine hK _ _ (by rfl) ?_) | fail)
    refine aw_ret (fin_ret ?_); simp -implicitDefEqProofs [FinP, resV, resT] <;> try rfl
  by_cases h6 : x.k = 6; rotate_left
  · rw [show litB x ([] : List VT).length = false by simp [litB, h5, h6]]
    refine row_of Try.func50 rfl rfl (Nat.le_of_ble_eq_true rfl) ?_
    repeat (first | refine aw_seq ?_ | refine aw_skip ?_ | refine aw_block ?_ | refine aw_exit ?_ | refine aw_cond rfl (fun _ => ?_) (fun hb => absurd hb (by decide)) | refine aw_cond rfl (fun hb => absurd hb (by decide)) (fun _ => ?_) | (refine aw_reg (fun K hK => ?_); simp -implicitDefEqProofs [hs, h5, h6]; refine hK _ ?_) | (refine aw_drw mixd (fun K hK => ?_); simp -implicitDefEqProofs [hs, h5, h6]; refine hK _ _ (by rfl) ?_) | fail)
    refine aw_ret (fin_ret ?_); simp -implicitDefEqProofs [FinP, resV, resT] <;> try rfl
  by_cases n0 : x.n = 0
  · rw [show litB x ([] : List VT).length = true by simp [litB, hs, h6, n0]]
    refine row_of Try.func50 rfl rfl (Nat.le_of_ble_eq_true rfl) ?_
    repeat (first | refine aw_seq ?_ | refine aw_skip ?_ | refine aw_block ?_ | refine aw_exit ?_ | refine aw_cond rfl (fun _ => ?_) (fun hb => absurd hb (by decide)) | refine aw_cond rfl (fun hb => absurd hb (by decide)) (fun _ => ?_) | (refine aw_reg (fun K hK => ?_); simp -implicitDefEqProofs [hs, h6, n0]; refine hK _ ?_) | (refine aw_drw mixd (fun K hK => ?_); simp -implicitDefEqProofs [hs, h6, n0]; refine hK _ _ (by rfl) ?_) | fail)
    refine aw_ret (fin_ret ?_); simp -implicitDefEqProofs [FinP, resV, resT] <;> try rfl
  by_cases n1 : x.n = 1
  · rw [show litB x ([] : List VT).length = true by simp [litB, hs, h6, n1]]
    refine row_of Try.func50 rfl rfl (Nat.le_of_ble_eq_true rfl) ?_
    repeat (first | refine aw_seq ?_ | refine aw_skip ?_ | refine aw_block ?_ | refine aw_exit ?_ | refine aw_cond rfl (fun _ => ?_) (fun hb => absurd hb (by decide)) | refine aw_cond rfl (fun hb => absurd hb (by decide)) (fun _ => ?_) | (refine aw_reg (fun K hK => ?_); simp -implicitDefEqProofs [hs, h6, n1]; refine hK _ ?_) | (refine aw_drw mixd (fun K hK => ?_); simp -implicitDefEqProofs [hs, h6, n1]; refine hK _ _ (by rfl) ?_) | fail)
    refine aw_ret (fin_ret ?_); simp -implicitDefEqProofs [FinP, resV, resT] <;> try rfl
  · rw [show litB x ([] : List VT).length = false by simp [litB, h5, h6, n0, n1]]
    refine row_of Try.func50 rfl rfl (Nat.le_of_ble_eq_true rfl) ?_
    repeat (first | refine aw_seq ?_ | refine aw_skip ?_ | refine aw_block ?_ | refine aw_exit ?_ | refine aw_cond rfl (fun _ => ?_) (fun hb => absurd hb (by decide)) | refine aw_cond rfl (fun hb => absurd hb (by decide)) (fun _ => ?_) | (refine aw_reg (fun K hK => ?_); simp -implicitDefEqProofs [hs, h6, n0, n1]; refine hK _ ?_) | (refine aw_drw mixd (fun K hK => ?_); simp -implicitDefEqProofs [hs, h6, n0, n1]; refine hK _ _ (by rfl) ?_) | fail)
    refine aw_ret (fin_ret ?_); simp -implicitDefEqProofs [FinP, resV, resT] <;> try rfl
noncomputable def othQ : Nat → Nat → List VT → Bool
  | _, _, [] => true
  | i, k, y :: r => (decide (k = i) || quT y) && othQ i (k + 1) r
noncomputable def prtF (l : List VT) (i : Int) : Option VT := if 0 ≤ i ∧ i < l.length ∧ othQ i.toNat 0 l = true then l[i.toNat]? else none
theorem othQ_no : ∀ {l : List VT} {i k j : Nat} {y : VT}, l[j]? = some y → ¬ k + j = i → quT y = false → othQ i k l = false
  | [], i, k, j, y, h, _, _ => by simp at h
  | z :: r, i, k, 0, y, h, hj, hq => by
    simp at h; subst h
    unfold othQ
    rw [hq, decide_eq_false (by omega)]; rfl
  | z :: r, i, k, j + 1, y, h, hj, hq => by
    unfold othQ
    rw [othQ_no (l := r) (k := k + 1) (j := j) (by simpa using h) (by omega) hq, Bool.and_false]
theorem othQ_yes : ∀ {l : List VT} {i k : Nat}, (∀ (j : Nat) y, l[j]? = some y → ¬ k + j = i → quT y = true) → othQ i k l = true
  | [], i, k, _ => rfl
  | z :: r, i, k, h => by
    unfold othQ
    rw [othQ_yes (l := r) (k := k + 1) (fun j y hy hj => h (j + 1) y (by simpa using hy) (by omega)), Bool.and_true]
    by_cases hk : k = i
    · rw [decide_eq_true hk]; rfl
    · rw [h 0 z rfl (by omega), Bool.or_true]
noncomputable abbrev vO (o : Option VT) : AV := vTO (o.getD z0T) o.isSome
set_option maxRecDepth 100000 in
set_option maxHeartbeats 4000000 in
theorem alone_row (l : List VT) (hl : l.length ≤ 1000000) (hq : ∀ y ∈ l, in64 y ∧ y.size ≤ 1000000) (i : Int) (hi : i ≤ 9223372036854775807) : Row Try.prog 48 [vLs l, vI i] [] (vO (prtF l i)) [] := by
  by_cases h0 : i < 0
  · rw [show prtF l i = none by unfold prtF; exact if_neg (fun h => by omega)]
    refine row_of Try.func48 rfl rfl (Nat.le_of_ble_eq_true rfl) ?_
    repeat (first | refine aw_seq ?_ | refine aw_skip ?_ | refine aw_block ?_ | refine aw_exit ?_ | refine aw_cond rfl (fun _ => ?_) (fun hb => absurd hb (by decide)) | refine aw_cond rfl (fun hb => absurd hb (by decide)) (fun _ => ?_) | (refine aw_reg (fun K hK => ?_); simp -implicitDefEqProofs [h0]; refine hK _ ?_) | (refine aw_drw mixd (fun K hK => ?_); simp -implicitDefEqProofs [h0]; refine hK _ _ (by rfl) ?_) | fail)
    refine aw_ret (fin_ret ?_); simp -implicitDefEqProofs [FinP, resV, resT] <;> try rfl
  obtain ⟨n, rfl⟩ : ∃ n : Nat, i = n := ⟨i.toNat, by omega⟩
  have w0 : IntKind.i64.wrap ((l.length : Nat) : Int) = (l.length : Nat) := i64i _ (by omega) (by omega)
  by_cases hn : n < l.length; rotate_left
  · have hn' : (l.length : Int) ≤ (n : Nat) := by omega
    rw [show prtF l (n : Nat) = none by unfold prtF; exact if_neg (fun h => by omega)]
    refine row_of Try.func48 rfl rfl (Nat.le_of_ble_eq_true rfl) ?_
    repeat (first | refine aw_seq ?_ | refine aw_skip ?_ | refine aw_block ?_ | refine aw_exit ?_ | refine aw_cond rfl (fun _ => ?_) (fun hb => absurd hb (by decide)) | refine aw_cond rfl (fun hb => absurd hb (by decide)) (fun _ => ?_) | (refine aw_reg (fun K hK => ?_); simp -implicitDefEqProofs [h0, hn, hn', w0]; refine hK _ ?_) | (refine aw_drw mixd (fun K hK => ?_); simp -implicitDefEqProofs [h0, hn, hn', w0]; refine hK _ _ (by rfl) ?_) | fail)
    refine aw_ret (fin_ret ?_); simp -implicitDefEqProofs [FinP, resV, resT] <;> try rfl
  have hn' : ¬ (l.length : Int) ≤ (n : Nat) := by omega
  have hn2 : ¬ l.length ≤ n := by omega
  obtain ⟨⟨bx, bl⟩, hb⟩ : ∃ a, l[n]? = some a := ⟨_, List.getElem?_eq_getElem hn⟩
  have hb' := (List.getElem?_eq_some_iff.1 hb).2
  have w3 : IntKind.i64.wrap ((n : Nat) : Int) = (n : Nat) := i64i _ (by omega) (by omega)
  have hno : ∀ (j : Nat) y, l[j]? = some y → ¬ j = n → quT y = false → prtF l (n : Nat) = none := fun j y h1 h2 h3 => by
    unfold prtF
    refine if_neg (fun h => ?_)
    have := h.2.2
    rw [Int.toNat_natCast, othQ_no h1 (by omega) h3] at this
    cases this
  have hyes : (∀ (j : Nat) y, l[j]? = some y → ¬ j = n → quT y = true) → prtF l (n : Nat) = some (.mk bx bl) := fun h => by
    unfold prtF
    rw [if_pos ⟨by omega, by omega, by rw [Int.toNat_natCast]; exact othQ_yes (fun j y h1 h2 => h j y h1 (by omega))⟩, Int.toNat_natCast]
    exact hb
  obtain ⟨R, hR⟩ : ∃ R, prtF l (n : Nat) = R := ⟨_, rfl⟩
  rw [hR] at hyes ⊢
  simp only [hR] at hno
  clear hR
  refine row_of Try.func48 rfl rfl (Nat.le_of_ble_eq_true rfl) ?_
  repeat (first | refine aw_seq ?_ | refine aw_skip ?_ | refine aw_block ?_ | refine aw_exit ?_ | refine aw_cond rfl (fun _ => ?_) (fun hb => absurd hb (by decide)) | refine aw_cond rfl (fun hb => absurd hb (by decide)) (fun _ => ?_) | (refine aw_reg (fun K hK => ?_); simp -implicitDefEqProofs [h0, hn, hn', hn2, w0]; refine hK _ ?_) | (refine aw_drw mixd (fun K hK => ?_); simp -implicitDefEqProofs [h0, hn, hn', hn2, w0]; refine hK _ _ (by rfl) ?_) | fail)
  refine aw_lp (ι := Nat) (fun k => mkSt [(0, vLs l), (1, vI (n : Nat)), (4, .v (.c (.ptr 0 0))), (17, vLs l), (18, vI (l.length : Nat)), (19, vI (k : Nat))] [some (.box (ta z0T))]) (fun k => k ≤ l.length ∧ ∀ (j : Nat) y, j < k → l[j]? = some y → ¬ j = n → quT y = true) (fun k => l.length - k) 0 ⟨Nat.zero_le _, fun j y h => by omega⟩ (cov_intro [0] (by simp -implicitDefEqProofs) (by simp -implicitDefEqProofs) (by decide) rfl (by simp)) (fun Z hI k hk => ?_)
  obtain ⟨hk, hz⟩ := hk
  by_cases hkl : k < l.length; rotate_left
  · have : k = l.length := by omega
    subst this
    have hR := hyes (fun j y h1 h2 => hz j y (List.getElem?_eq_some_iff.1 h1).1 h1 h2)
    subst hR
    clear hyes hno
    repeat (first | refine aw_seq ?_ | refine aw_skip ?_ | refine aw_block ?_ | refine aw_exit ?_ | refine aw_cond rfl (fun _ => ?_) (fun hb => absurd hb (by decide)) | refine aw_cond rfl (fun hb => absurd hb (by decide)) (fun _ => ?_) | (refine aw_reg (fun K hK => ?_); simp -implicitDefEqProofs [hn, hb, hb', w3]; refine hK _ ?_) | (refine aw_drw mixd (fun K hK => ?_); simp -implicitDefEqProofs [hn, hb, hb', w3]; refine hK _ _ (by rfl) ?_) | fail)
    refine aw_ret (fin_ret ?_); simp -implicitDefEqProofs [FinP, resV, resT] <;> try rfl
  obtain ⟨⟨ax, al⟩, ha⟩ : ∃ a, l[k]? = some a := ⟨_, List.getElem?_eq_getElem hkl⟩
  have ha' := (List.getElem?_eq_some_iff.1 ha).2
  have hm := hq _ (List.mem_of_getElem? ha)
  have hqr := quiet_row (.mk ax al) hm.1 hm.2
  have w2 : IntKind.i64.wrap ((k : Nat) + 1 : Int) = (k : Nat) + 1 := i64i _ (by omega) (by omega)
  have w4 : IntKind.i64.wrap ((k : Nat) : Int) = (k : Nat) := i64i _ (by omega) (by omega)
  by_cases hkn : k = n
  · have hkn' : (k : Int) = (n : Nat) := by omega
    subst hkn
    clear hyes hno hqr
    repeat' (first | refine aw_seq ?_ | refine aw_skip ?_ | refine aw_block ?_ | refine aw_exit ?_ | refine aw_cond rfl (fun _ => ?_) (fun hb => absurd hb (by decide)) | refine aw_cond rfl (fun hb => absurd hb (by decide)) (fun _ => ?_) | (refine aw_reg (fun K hK => ?_); simp -implicitDefEqProofs [hkl, ha, ha', w2, w4]) | (refine aw_drw mixd (fun K hK => ?_); simp -implicitDefEqProofs [hkl, ha, ha', w2, w4]) | refine hK _ ?_ | refine hK _ _ (by rfl) ?_ | fail)
    refine ⟨k + 1, ⟨by omega, fun j y h1 h2 h3 => hz j y (by omega) h2 h3⟩, (by dsimp only; omega), ?_⟩
    rw [hI]; exact cov_intro [0] (by simp -implicitDefEqProofs) (by simp -implicitDefEqProofs) (by decide) rfl (by simp)
  have hkn' : ¬ (k : Int) = (n : Nat) := by omega
  obtain ⟨q, hqq⟩ : ∃ q, quT (.mk ax al) = q := ⟨_, rfl⟩
  rw [hqq] at hqr
  cases q with
  | true =>
    clear hyes hno
    repeat' (first | refine aw_seq ?_ | refine aw_skip ?_ | refine aw_block ?_ | refine aw_exit ?_ | refine aw_cond rfl (fun _ => ?_) (fun hb => absurd hb (by decide)) | refine aw_cond rfl (fun hb => absurd hb (by decide)) (fun _ => ?_) | (refine aw_reg (fun K hK => ?_); simp -implicitDefEqProofs [hkl, ha, ha', w2, w4, hkn, hkn']) | (refine aw_drw mixd (fun K hK => ?_); simp -implicitDefEqProofs [hkl, ha, ha', w2, w4, hkn, hkn']) | refine hK _ ?_ | refine hK _ _ (by rfl) ?_ | (refine ar_call (cp hqr ?_); simp -implicitDefEqProofs [hkl, ha, ha', w2, w4, hkn, hkn']) | (refine ard_call (dp hqr ?_); simp -implicitDefEqProofs [hkl, ha, ha', w2, w4, hkn, hkn']) | fail)
    refine ⟨k + 1, ⟨by omega, fun j y h1 h2 h3 => ?_⟩, (by dsimp only; omega), ?_⟩
    · by_cases hj : j = k
      · subst hj; rw [ha] at h2; cases h2; exact hqq
      · exact hz j y (by omega) h2 h3
    · rw [hI]; exact cov_intro [0] (by simp -implicitDefEqProofs) (by simp -implicitDefEqProofs) (by decide) rfl (by simp)
  | false =>
    have hR := hno k _ ha hkn hqq
    subst hR
    clear hyes hno
    repeat' (first | refine aw_seq ?_ | refine aw_skip ?_ | refine aw_block ?_ | refine aw_exit ?_ | refine aw_cond rfl (fun _ => ?_) (fun hb => absurd hb (by decide)) | refine aw_cond rfl (fun hb => absurd hb (by decide)) (fun _ => ?_) | (refine aw_reg (fun K hK => ?_); simp -implicitDefEqProofs [hkl, ha, ha', w4, hkn, hkn']) | (refine aw_drw mixd (fun K hK => ?_); simp -implicitDefEqProofs [hkl, ha, ha', w4, hkn, hkn']) | refine hK _ ?_ | refine hK _ _ (by rfl) ?_ | (refine ar_call (cp hqr ?_); simp -implicitDefEqProofs [hkl, ha, ha', w4, hkn, hkn']) | (refine ard_call (dp hqr ?_); simp -implicitDefEqProofs [hkl, ha, ha', w4, hkn, hkn']) | fail)
    refine aw_ret (fin_ret ?_); simp -implicitDefEqProofs [FinP, resV, resT] <;> try rfl
set_option maxRecDepth 100000 in
set_option maxHeartbeats 4000000 in
theorem rpart27_row (l : List VT) (hl : l.length ≤ 1000000) (hq : ∀ y ∈ l, in64 y ∧ y.size ≤ 1000000) (i : Int) (hi : i ≤ 9223372036854775807) : Row Try.prog 51 [vLs l, vI i] [] (vO (prtF l i)) [] := by
  by_cases h0 : i < 0
  · rw [show prtF l i = none by unfold prtF; exact if_neg (fun h => by omega)]
    refine row_of Try.func51 rfl rfl (Nat.le_of_ble_eq_true rfl) ?_
    repeat (first | refine aw_seq ?_ | refine aw_skip ?_ | refine aw_block ?_ | refine aw_exit ?_ | refine aw_cond rfl (fun _ => ?_) (fun hb => absurd hb (by decide)) | refine aw_cond rfl (fun hb => absurd hb (by decide)) (fun _ => ?_) | (refine aw_reg (fun K hK => ?_); simp -implicitDefEqProofs [h0]; refine hK _ ?_) | (refine aw_drw mixd (fun K hK => ?_); simp -implicitDefEqProofs [h0]; refine hK _ _ (by rfl) ?_) | fail)
    refine aw_ret (fin_ret ?_); simp -implicitDefEqProofs [FinP, resV, resT] <;> try rfl
  obtain ⟨n, rfl⟩ : ∃ n : Nat, i = n := ⟨i.toNat, by omega⟩
  have w0 : IntKind.i64.wrap ((l.length : Nat) : Int) = (l.length : Nat) := i64i _ (by omega) (by omega)
  by_cases hn : n < l.length; rotate_left
  · have hn' : (l.length : Int) ≤ (n : Nat) := by omega
    rw [show prtF l (n : Nat) = none by unfold prtF; exact if_neg (fun h => by omega)]
    refine row_of Try.func51 rfl rfl (Nat.le_of_ble_eq_true rfl) ?_
    repeat (first | refine aw_seq ?_ | refine aw_skip ?_ | refine aw_block ?_ | refine aw_exit ?_ | refine aw_cond rfl (fun _ => ?_) (fun hb => absurd hb (by decide)) | refine aw_cond rfl (fun hb => absurd hb (by decide)) (fun _ => ?_) | (refine aw_reg (fun K hK => ?_); simp -implicitDefEqProofs [h0, hn, hn', w0]; refine hK _ ?_) | (refine aw_drw mixd (fun K hK => ?_); simp -implicitDefEqProofs [h0, hn, hn', w0]; refine hK _ _ (by rfl) ?_) | fail)
    refine aw_ret (fin_ret ?_); simp -implicitDefEqProofs [FinP, resV, resT] <;> try rfl
  have hn' : ¬ (l.length : Int) ≤ (n : Nat) := by omega
  have hn2 : ¬ l.length ≤ n := by omega
  obtain ⟨⟨bx, bl⟩, hb⟩ : ∃ a, l[n]? = some a := ⟨_, List.getElem?_eq_getElem hn⟩
  have hb' := (List.getElem?_eq_some_iff.1 hb).2
  have w3 : IntKind.i64.wrap ((n : Nat) : Int) = (n : Nat) := i64i _ (by omega) (by omega)
  have hno : ∀ (j : Nat) y, l[j]? = some y → ¬ j = n → quT y = false → prtF l (n : Nat) = none := fun j y h1 h2 h3 => by
    unfold prtF
    refine if_neg (fun h => ?_)
    have := h.2.2
    rw [Int.toNat_natCast, othQ_no h1 (by omega) h3] at this
    cases this
  have hyes : (∀ (j : Nat) y, l[j]? = some y → ¬ j = n → quT y = true) → prtF l (n : Nat) = some (.mk bx bl) := fun h => by
    unfold prtF
    rw [if_pos ⟨by omega, by omega, by rw [Int.toNat_natCast]; exact othQ_yes (fun j y h1 h2 => h j y h1 (by omega))⟩, Int.toNat_natCast]
    exact hb
  obtain ⟨R, hR⟩ : ∃ R, prtF l (n : Nat) = R := ⟨_, rfl⟩
  rw [hR] at hyes ⊢
  simp only [hR] at hno
  clear hR
  refine row_of Try.func51 rfl rfl (Nat.le_of_ble_eq_true rfl) ?_
  repeat (first | refine aw_seq ?_ | refine aw_skip ?_ | refine aw_block ?_ | refine aw_exit ?_ | refine aw_cond rfl (fun _ => ?_) (fun hb => absurd hb (by decide)) | refine aw_cond rfl (fun hb => absurd hb (by decide)) (fun _ => ?_) | (refine aw_reg (fun K hK => ?_); simp -implicitDefEqProofs [h0, hn, hn', hn2, w0]; refine hK _ ?_) | (refine aw_drw mixd (fun K hK => ?_); simp -implicitDefEqProofs [h0, hn, hn', hn2, w0]; refine hK _ _ (by rfl) ?_) | fail)
  refine aw_lp (ι := Nat) (fun k => mkSt [(0, vLs l), (1, vI (n : Nat)), (4, .v (.c (.ptr 0 0))), (6, vI (k : Nat))] [some (.box (ta z0T))]) (fun k => k ≤ l.length ∧ ∀ (j : Nat) y, j < k → l[j]? = some y → ¬ j = n → quT y = true) (fun k => l.length - k) 0 ⟨Nat.zero_le _, fun j y h => by omega⟩ (cov_intro [0] (by simp -implicitDefEqProofs) (by simp -implicitDefEqProofs) (by decide) rfl (by simp)) (fun Z hI k hk => ?_)
  obtain ⟨hk, hz⟩ := hk
  by_cases hkl : k < l.length; rotate_left
  · have : k = l.length := by omega
    subst this
    have hR := hyes (fun j y h1 h2 => hz j y (List.getElem?_eq_some_iff.1 h1).1 h1 h2)
    subst hR
    clear hyes hno
    repeat (first | refine aw_seq ?_ | refine aw_skip ?_ | refine aw_block ?_ | refine aw_exit ?_ | refine aw_cond rfl (fun _ => ?_) (fun hb => absurd hb (by decide)) | refine aw_cond rfl (fun hb => absurd hb (by decide)) (fun _ => ?_) | (refine aw_reg (fun K hK => ?_); simp -implicitDefEqProofs [hn, hb, hb', w3]; refine hK _ ?_) | (refine aw_drw mixd (fun K hK => ?_); simp -implicitDefEqProofs [hn, hb, hb', w3]; refine hK _ _ (by rfl) ?_) | fail)
    refine aw_ret (fin_ret ?_); simp -implicitDefEqProofs [FinP, resV, resT] <;> try rfl
  obtain ⟨⟨ax, al⟩, ha⟩ : ∃ a, l[k]? = some a := ⟨_, List.getElem?_eq_getElem hkl⟩
  have ha' := (List.getElem?_eq_some_iff.1 ha).2
  have hm := hq _ (List.mem_of_getElem? ha)
  have hqr := rquiet_row (.mk ax al) hm.1 hm.2
  have w2 : IntKind.i64.wrap ((k : Nat) + 1 : Int) = (k : Nat) + 1 := i64i _ (by omega) (by omega)
  have w4 : IntKind.i64.wrap ((k : Nat) : Int) = (k : Nat) := i64i _ (by omega) (by omega)
  by_cases hkn : k = n
  · have hkn' : (k : Int) = (n : Nat) := by omega
    subst hkn
    clear hyes hno hqr
    repeat' (first | refine aw_seq ?_ | refine aw_skip ?_ | refine aw_block ?_ | refine aw_exit ?_ | refine aw_cond rfl (fun _ => ?_) (fun hb => absurd hb (by decide)) | refine aw_cond rfl (fun hb => absurd hb (by decide)) (fun _ => ?_) | (refine aw_reg (fun K hK => ?_); simp -implicitDefEqProofs [hkl, ha, ha', w2, w4]) | (refine aw_drw mixd (fun K hK => ?_); simp -implicitDefEqProofs [hkl, ha, ha', w2, w4]) | refine hK _ ?_ | refine hK _ _ (by rfl) ?_ | fail)
    refine ⟨k + 1, ⟨by omega, fun j y h1 h2 h3 => hz j y (by omega) h2 h3⟩, (by dsimp only; omega), ?_⟩
    rw [hI]; exact cov_intro [0] (by simp -implicitDefEqProofs) (by simp -implicitDefEqProofs) (by decide) rfl (by simp)
  have hkn' : ¬ (k : Int) = (n : Nat) := by omega
  obtain ⟨q, hqq⟩ : ∃ q, quT (.mk ax al) = q := ⟨_, rfl⟩
  rw [hqq] at hqr
  cases q with
  | true =>
    clear hyes hno
    repeat' (first | refine aw_seq ?_ | refine aw_skip ?_ | refine aw_block ?_ | refine aw_exit ?_ | refine aw_cond rfl (fun _ => ?_) (fun hb => absurd hb (by decide)) | refine aw_cond rfl (fun hb => absurd hb (by decide)) (fun _ => ?_) | (refine aw_reg (fun K hK => ?_); simp -implicitDefEqProofs [hkl, ha, ha', w2, w4, hkn, hkn']) | (refine aw_drw mixd (fun K hK => ?_); simp -implicitDefEqProofs [hkl, ha, ha', w2, w4, hkn, hkn']) | refine hK _ ?_ | refine hK _ _ (by rfl) ?_ | (refine ar_call (cp hqr ?_); simp -implicitDefEqProofs [hkl, ha, ha', w2, w4, hkn, hkn']) | (refine ard_call (dp hqr ?_); simp -implicitDefEqProofs [hkl, ha, ha', w2, w4, hkn, hkn']) | fail)
    refine ⟨k + 1, ⟨by omega, fun j y h1 h2 h3 => ?_⟩, (by dsimp only; omega), ?_⟩
    · by_cases hj : j = k
      · subst hj; rw [ha] at h2; cases h2; exact hqq
      · exact hz j y (by omega) h2 h3
    · rw [hI]; exact cov_intro [0] (by simp -implicitDefEqProofs) (by simp -implicitDefEqProofs) (by decide) rfl (by simp)
  | false =>
    have hR := hno k _ ha hkn hqq
    subst hR
    clear hyes hno
    repeat' (first | refine aw_seq ?_ | refine aw_skip ?_ | refine aw_block ?_ | refine aw_exit ?_ | refine aw_cond rfl (fun _ => ?_) (fun hb => absurd hb (by decide)) | refine aw_cond rfl (fun hb => absurd hb (by decide)) (fun _ => ?_) | (refine aw_reg (fun K hK => ?_); simp -implicitDefEqProofs [hkl, ha, ha', w4, hkn, hkn']) | (refine aw_drw mixd (fun K hK => ?_); simp -implicitDefEqProofs [hkl, ha, ha', w4, hkn, hkn']) | refine hK _ ?_ | refine hK _ _ (by rfl) ?_ | (refine ar_call (cp hqr ?_); simp -implicitDefEqProofs [hkl, ha, ha', w4, hkn, hkn']) | (refine ard_call (dp hqr ?_); simp -implicitDefEqProofs [hkl, ha, ha', w4, hkn, hkn']) | fail)
    refine aw_ret (fin_ret ?_); simp -implicitDefEqProofs [FinP, resV, resT] <;> try rfl
end Go.Proofs.Ytjjnboenehomgaa.am
end
