import Derived.Test.YthkfdheoakbfnaaGreatPkF21
import Derived.Test.YthkfdheoakbfnaaGreatPkF4
import Derived.Test.YthkfdheoakbfnaaGreatPkF5
import Derived.Test.YthkfdheoakbfnaaGreatPkF6
import Derived.Test.YthkfdheoakbfnaaGreatPkF20
import Derived.Test.YthkfdheoakbfnaaGreatChecked
import Derived.Test.YthkfdheoakbfnaaGreatPkF12
import Derived.ChangeMaps5
set_option maxRecDepth 100000
set_option maxHeartbeats 4000000
section
namespace Go.Proofs.YthkfdheoakbfnaaGreat.am
open Go.ChangeShapes Go.WideShapes Go.ChangeAt Go.RowKit
open vt
set_option linter.unusedVariables false
set_option linter.unusedSimpArgs false
theorem c6q {pl : List VT} (hp : c1x pl = true) {q : VT} (hq : q ∈ pl) : ∃ px b, q = .mk px [b] := by
  obtain ⟨px, l⟩ := q
  have := List.all_eq_true.1 hp _ hq
  simp [o9, Tr.kids] at this
  obtain ⟨b, rfl⟩ := w6 (l := l) (of_decide_eq_true this.2)
  exact ⟨px, b, rfl⟩
theorem c2b (m : VT) (hm : t7 m) (hms : m.size ≤ 100000) (x : Lab) (l : List VT) (ht : t7 (.mk x l)) (hsz : (Tr.mk x l).size ≤ 100000) : Row Tryz.prog 44 [vT m, vT (.mk x l)] [] (vGr (fnT m x l)) [] := by
  have hlen := Tr.len_size (x := x) (l := l)
  have hbx := n8 x l 12
  have hns : ∀ P, fnT m x l = P → Row Tryz.prog 44 [vT m, vT (.mk x l)] [] (vGr P) [] → Row Tryz.prog 44 [vT m, vT (.mk x l)] [] (vGr (fnT m x l)) [] := fun P h k => by rw [h]; exact k
  by_cases hn : x.n = 0 ∨ x.n = 1; rotate_left
  · have n0 : ¬ x.n = 0 := fun h => hn (.inl h)
    have n1 : ¬ x.n = 1 := fun h => hn (.inr h)
    refine hns (u9 x 12) (by unfold fnT; exact if_pos (.inl hn)) ?_
    clear hns
    unfold u9 at hbx ⊢
    obtain ⟨mx, ml⟩ := m
    refine f6 Tryz.func44 rfl rfl (Nat.le_of_ble_eq_true rfl) ?_
    repeat' (first | refine d4 ?_ | refine b8 ?_ | refine b7 ?_ | refine b9 ?_ | refine f5 rfl ?_ | refine d8 rfl ?_ | ((first | refine c5 (fun K hK => ?_) | refine d5 f8 (fun K hK => ?_) | refine a9 (cp hbx ?_) | refine a8 (dp hbx ?_) | fail); simp -implicitDefEqProofs [n0, n1]) | refine hK _ ?_ | refine hK _ _ (by rfl) ?_ | fail)
    refine d7 (d6 ?_); simp -implicitDefEqProofs [g8, f9, g7] <;> try rfl
  by_cases h3 : l.length = 3; rotate_left
  · have h3' : ¬ (l.length : Int) = 3 := by omega
    refine hns (u9 x 12) (by unfold fnT; exact if_pos (.inr (.inl h3))) ?_
    clear hns
    unfold u9 at hbx ⊢
    obtain ⟨mx, ml⟩ := m
    rcases hn with hn | hn
    · refine f6 Tryz.func44 rfl rfl (Nat.le_of_ble_eq_true rfl) ?_
      repeat' (first | refine d4 ?_ | refine b8 ?_ | refine b7 ?_ | refine b9 ?_ | refine f5 rfl ?_ | refine d8 rfl ?_ | ((first | refine c5 (fun K hK => ?_) | refine d5 f8 (fun K hK => ?_) | refine a9 (cp hbx ?_) | refine a8 (dp hbx ?_) | fail); simp -implicitDefEqProofs [hn, h3, h3']) | refine hK _ ?_ | refine hK _ _ (by rfl) ?_ | fail)
      refine d7 (d6 ?_); simp -implicitDefEqProofs [g8, f9, g7] <;> try rfl
    · refine f6 Tryz.func44 rfl rfl (Nat.le_of_ble_eq_true rfl) ?_
      repeat' (first | refine d4 ?_ | refine b8 ?_ | refine b7 ?_ | refine b9 ?_ | refine f5 rfl ?_ | refine d8 rfl ?_ | ((first | refine c5 (fun K hK => ?_) | refine d5 f8 (fun K hK => ?_) | refine a9 (cp hbx ?_) | refine a8 (dp hbx ?_) | fail); simp -implicitDefEqProofs [hn, h3, h3']) | refine hK _ ?_ | refine hK _ _ (by rfl) ?_ | fail)
      refine d7 (d6 ?_); simp -implicitDefEqProofs [g8, f9, g7] <;> try rfl
  obtain ⟨⟨px, pl⟩, ⟨rx, rl⟩, ⟨bx, bl⟩, rfl⟩ := a72 h3
  have sp := Tr.size_at (x := x) (l := [Tr.mk px pl, .mk rx rl, .mk bx bl]) (i := 0) rfl
  have sr := Tr.size_at (x := x) (l := [Tr.mk px pl, .mk rx rl, .mk bx bl]) (i := 1) rfl
  have sb := Tr.size_at (x := x) (l := [Tr.mk px pl, .mk rx rl, .mk bx bl]) (i := 2) rfl
  have ip := ((Tr.all_mk _ _ _).1 ht).2 (.mk px pl) (by simp)
  have ir := ((Tr.all_mk _ _ _).1 ht).2 (.mk rx rl) (by simp)
  have ib := ((Tr.all_mk _ _ _).1 ht).2 (.mk bx bl) (by simp)
  have lp := Tr.len_size (x := px) (l := pl)
  by_cases h35 : px.k = 35; rotate_left
  · refine hns (u9 x 12) (by unfold fnT; exact if_pos (.inr (.inr (.inl h35)))) ?_
    clear hns
    unfold u9 at hbx ⊢
    obtain ⟨mx, ml⟩ := m
    rcases hn with hn | hn
    · refine f6 Tryz.func44 rfl rfl (Nat.le_of_ble_eq_true rfl) ?_
      repeat' (first | refine d4 ?_ | refine b8 ?_ | refine b7 ?_ | refine b9 ?_ | refine f5 rfl ?_ | refine d8 rfl ?_ | ((first | refine c5 (fun K hK => ?_) | refine d5 f8 (fun K hK => ?_) | refine a9 (cp hbx ?_) | refine a8 (dp hbx ?_) | fail); simp -implicitDefEqProofs [hn, h35]) | refine hK _ ?_ | refine hK _ _ (by rfl) ?_ | fail)
      refine d7 (d6 ?_); simp -implicitDefEqProofs [g8, f9, g7] <;> try rfl
    · refine f6 Tryz.func44 rfl rfl (Nat.le_of_ble_eq_true rfl) ?_
      repeat' (first | refine d4 ?_ | refine b8 ?_ | refine b7 ?_ | refine b9 ?_ | refine f5 rfl ?_ | refine d8 rfl ?_ | ((first | refine c5 (fun K hK => ?_) | refine d5 f8 (fun K hK => ?_) | refine a9 (cp hbx ?_) | refine a8 (dp hbx ?_) | fail); simp -implicitDefEqProofs [hn, h35]) | refine hK _ ?_ | refine hK _ _ (by rfl) ?_ | fail)
      refine d7 (d6 ?_); simp -implicitDefEqProofs [g8, f9, g7] <;> try rfl
  have hpa := b1z pl (by omega)
  cases hP : c1x pl with
  | false =>
    rw [hP] at hpa
    refine hns (u9 x 12) (by unfold fnT; exact if_pos (.inr (.inr (.inr (.inl hP))))) ?_
    clear hns
    unfold u9 at hbx ⊢
    obtain ⟨mx, ml⟩ := m
    rcases hn with hn | hn
    · refine f6 Tryz.func44 rfl rfl (Nat.le_of_ble_eq_true rfl) ?_
      repeat' (first | refine d4 ?_ | refine b8 ?_ | refine b7 ?_ | refine b9 ?_ | refine f5 rfl ?_ | refine d8 rfl ?_ | ((first | refine c5 (fun K hK => ?_) | refine d5 f8 (fun K hK => ?_) | refine a9 (cp hbx ?_) | refine a8 (dp hbx ?_) | refine a9 (cp hpa ?_) | refine a8 (dp hpa ?_) | fail); simp -implicitDefEqProofs [hn, h35]) | refine hK _ ?_ | refine hK _ _ (by rfl) ?_ | fail)
      refine d7 (d6 ?_); simp -implicitDefEqProofs [g8, f9, g7] <;> try rfl
    · refine f6 Tryz.func44 rfl rfl (Nat.le_of_ble_eq_true rfl) ?_
      repeat' (first | refine d4 ?_ | refine b8 ?_ | refine b7 ?_ | refine b9 ?_ | refine f5 rfl ?_ | refine d8 rfl ?_ | ((first | refine c5 (fun K hK => ?_) | refine d5 f8 (fun K hK => ?_) | refine a9 (cp hbx ?_) | refine a8 (dp hbx ?_) | refine a9 (cp hpa ?_) | refine a8 (dp hpa ?_) | fail); simp -implicitDefEqProofs [hn, h35]) | refine hK _ ?_ | refine hK _ _ (by rfl) ?_ | fail)
      refine d7 (d6 ?_); simp -implicitDefEqProofs [g8, f9, g7] <;> try rfl
  | true =>
  rw [hP] at hpa
  by_cases h29 : bx.k = 29; rotate_left
  · refine hns (u9 x 12) (by unfold fnT; exact if_pos (.inr (.inr (.inr (.inr h29))))) ?_
    clear hns
    unfold u9 at hbx ⊢
    obtain ⟨mx, ml⟩ := m
    rcases hn with hn | hn
    · refine f6 Tryz.func44 rfl rfl (Nat.le_of_ble_eq_true rfl) ?_
      repeat' (first | refine d4 ?_ | refine b8 ?_ | refine b7 ?_ | refine b9 ?_ | refine f5 rfl ?_ | refine d8 rfl ?_ | ((first | refine c5 (fun K hK => ?_) | refine d5 f8 (fun K hK => ?_) | refine a9 (cp hbx ?_) | refine a8 (dp hbx ?_) | refine a9 (cp hpa ?_) | refine a8 (dp hpa ?_) | fail); simp -implicitDefEqProofs [hn, h35, h29]) | refine hK _ ?_ | refine hK _ _ (by rfl) ?_ | fail)
      refine d7 (d6 ?_); simp -implicitDefEqProofs [g8, f9, g7] <;> try rfl
    · refine f6 Tryz.func44 rfl rfl (Nat.le_of_ble_eq_true rfl) ?_
      repeat' (first | refine d4 ?_ | refine b8 ?_ | refine b7 ?_ | refine b9 ?_ | refine f5 rfl ?_ | refine d8 rfl ?_ | ((first | refine c5 (fun K hK => ?_) | refine d5 f8 (fun K hK => ?_) | refine a9 (cp hbx ?_) | refine a8 (dp hbx ?_) | refine a9 (cp hpa ?_) | refine a8 (dp hpa ?_) | fail); simp -implicitDefEqProofs [hn, h35, h29]) | refine hK _ ?_ | refine hK _ _ (by rfl) ?_ | fail)
      refine d7 (d6 ?_); simp -implicitDefEqProofs [g8, f9, g7] <;> try rfl
  clear hbx
  have hty := b49 x px pl [Tr.mk rx rl, Tr.mk bx bl] (by omega) hP
  have hnot : ¬ (¬ (x.n = 0 ∨ x.n = 1) ∨ ¬ ([Tr.mk px pl, Tr.mk rx rl, Tr.mk bx bl] : List VT).length = 3 ∨ ¬ px.k = 35 ∨ c1x pl = false ∨ ¬ bx.k = 29) := by
    intro h
    rcases h with h | h | h | h | h
    · exact h hn
    · exact h h3
    · exact h h35
    · rw [hP] at h; cases h
    · exact h h29
  have hfn : fnT m x [Tr.mk px pl, Tr.mk rx rl, Tr.mk bx bl] = (match (a12 (Tr.mk x [Tr.mk px pl, Tr.mk rx rl, Tr.mk bx bl]) ++ [Tr.mk rx rl]).find? (fun a => decide (a0p m a = 0)) with
    | some a => u9 a.lab 11
    | none => match (a12 (Tr.mk x [Tr.mk px pl, Tr.mk rx rl, Tr.mk bx bl]) ++ [Tr.mk rx rl]).find? (fun a => decide (x.n = 1) && !(decide (0 < a0p m a) && a4k a)) with
      | some a => u9 a.lab 12
      | none => if (a3n m (.mk rx rl) (.mk bx bl) (a12 (Tr.mk x [Tr.mk px pl, Tr.mk rx rl, Tr.mk bx bl]))).er = 0
          then ⟨.mk ⟨x.k, x.n, ⟨#[]⟩, 0, 0⟩ [y6 (.mk px pl), y6 (.mk rx rl), (a3n m (.mk rx rl) (.mk bx bl) (a12 (Tr.mk x [Tr.mk px pl, Tr.mk rx rl, Tr.mk bx bl]))).t], 0, 0⟩
          else a3n m (.mk rx rl) (.mk bx bl) (a12 (Tr.mk x [Tr.mk px pl, Tr.mk rx rl, Tr.mk bx bl])) : GR) := by
    unfold fnT
    exact if_neg hnot
  obtain ⟨T, hT⟩ : ∃ T, a12 (Tr.mk x [Tr.mk px pl, Tr.mk rx rl, Tr.mk bx bl]) = T := ⟨_, rfl⟩
  have hTm : ∀ a ∈ T, a0d 100000 a := by
    intro a ha
    rw [← hT] at ha
    obtain ⟨q, hq, rfl⟩ := List.mem_map.1 ha
    replace hq : q ∈ pl := hq
    obtain ⟨qx, b, rfl⟩ := c6q hP hq
    have h1 := a4n (x := px) hq
    have h2 := Tr.size_at (x := qx) (l := [b]) (i := 0) rfl
    exact ⟨((Tr.all_mk _ _ _).1 (((Tr.all_mk _ _ _).1 ip).2 _ hq)).2 b (by simp), by show b.size ≤ _; omega⟩
  have hTl : T.length ≤ 100000 := by rw [← hT]; unfold a12; rw [List.length_map]; show pl.length ≤ _; omega
  rw [hT] at hty hfn
  obtain ⟨A, hA⟩ : ∃ A, T ++ [Tr.mk rx rl] = A := ⟨_, rfl⟩
  rw [hA] at hfn
  have hAl : A.length = T.length + 1 := by rw [← hA]; simp
  have hAm : ∀ a ∈ A, a0d 100000 a := by
    intro a ha
    rw [← hA] at ha
    rcases List.mem_append.1 ha with h | h
    · exact hTm a h
    · simp at h; subst h; exact ⟨ir, by omega⟩
  have hce : ∀ a, a ∈ A → Row Tryz.prog 47 [vT m, vT a] [] (vI (a0p m a)) [] := fun a ha => z9 m a hm (by omega) (hAm a ha).1 (by have := (hAm a ha).2; omega)
  have hpn : ∀ a, a ∈ A → Row Tryz.prog 68 [vT m, vT a] [] (vB (decide (0 < a0p m a) && a4k a)) [] := fun a ha => b45 m a hm (by omega) (hAm a ha).1 (by have := (hAm a ha).2; omega)
  have hst := (b83 m (.mk rx rl) (.mk bx bl) ib).2 T 100000 ⟨⟨hm, hms⟩, hTm, by omega, by omega, ⟨ir, by omega⟩⟩
  have hsb : a80 m (.mk rx rl) bx bl T [] = a3n m (.mk rx rl) (.mk bx bl) T := by
    rw [a70, show b5d bx bl = true by unfold b5d; rw [if_pos h29], if_neg (by simp), if_pos h29]
  rw [Tr.lab, Tr.kids, hsb] at hst
  have hnm := b8v x [.mk px pl, .mk rx rl, .mk bx bl] (by omega)
  obtain ⟨⟨⟨cx, cl⟩, gp, ge⟩, hG⟩ : ∃ g, a3n m (.mk rx rl) (.mk bx bl) T = g := ⟨_, rfl⟩
  rw [hG] at hst hfn
  dsimp only at hfn
  obtain ⟨⟨ux, ul⟩, hU⟩ : ∃ g, y6 (.mk px pl) = g := ⟨_, rfl⟩
  obtain ⟨⟨vx, vl⟩, hV⟩ : ∃ g, y6 (.mk rx rl) = g := ⟨_, rfl⟩
  obtain ⟨⟨wx, wl⟩, hW⟩ : ∃ g, y6 (.mk bx bl) = g := ⟨_, rfl⟩
  simp only [List.map_cons, List.map_nil, hU, hV, hW] at hnm
  rw [hU, hV] at hfn
  have b1 : (T.length + 1) * 72 ≤ 140737488355328 := by omega
  have b2 : T.length + 1 ≤ 140737488355328 := by omega
  have hAe : A.map tc = T.map tc ++ [[I rx.k, I rx.n, Sx rx.s, .sl 6 (rl.map tc), I rx.f, I rx.t]] := by rw [← hA]; simp
  obtain ⟨R, hRf⟩ : ∃ R, fnT m x [Tr.mk px pl, Tr.mk rx rl, Tr.mk bx bl] = R := ⟨_, rfl⟩
  rw [hRf] at hfn ⊢
  have ha1 : ∀ (k : Nat) ax al, A[k]? = some (.mk ax al) → a0p m (.mk ax al) = 0 → (∀ a ∈ A.take k, ¬ a0p m a = 0) → R = u9 ax 11 := by
    intro k ax al ha hc hno
    rw [hfn, a4g ha (by simpa using hc) (fun a h => by simpa using hno a h)]
    rfl
  have hf0 : (∀ a ∈ A, ¬ a0p m a = 0) → A.find? (fun a => decide (a0p m a = 0)) = none := fun h => List.find?_eq_none.2 (fun a ha => by simpa using h a ha)
  have ha2 : (∀ a ∈ A, ¬ a0p m a = 0) → ∀ (k : Nat) ax al, A[k]? = some (.mk ax al) → x.n = 1 → (decide (0 < a0p m (.mk ax al)) && a4k (.mk ax al)) = false → (∀ a ∈ A.take k, x.n = 1 → (decide (0 < a0p m a) && a4k a) = true) → R = u9 ax 12 := by
    intro h k ax al ha hx hc hno
    rw [hfn, hf0 h, a4g ha (by rw [hc, decide_eq_true hx]; rfl) (fun a ha => by rw [hno a ha hx]; simp)]
    rfl
  have ha3 : (∀ a ∈ A, ¬ a0p m a = 0) → (∀ a ∈ A, x.n = 1 → (decide (0 < a0p m a) && a4k a) = true) → R = if ge = 0 then ⟨.mk ⟨x.k, x.n, ⟨#[]⟩, 0, 0⟩ [.mk ux ul, .mk vx vl, .mk cx cl], 0, 0⟩ else ⟨.mk cx cl, gp, ge⟩ := by
    intro h1 h2
    rw [hfn, hf0 h1, List.find?_eq_none.2 (fun a ha => by
      by_cases hx : x.n = 1
      · rw [h2 a ha hx]; simp
      · rw [decide_eq_false hx]; simp)]
  clear hfn hns hnot hT hA hG hU hV hW hRf hsb hf0
  have hba := fun (a : Lab) (al : List VT) e => n8 a al e
  have hnn : x.n = 0 ∨ x.n = 1 := hn
  obtain ⟨mx, ml⟩ := m
  rcases hn with hn | hn
  all_goals (
    refine f6 Tryz.func44 rfl rfl (Nat.le_of_ble_eq_true rfl) ?_
    repeat' (first | refine d4 ?_ | refine b8 ?_ | refine b7 ?_ | refine b9 ?_ | refine f5 rfl ?_ | refine d8 rfl ?_ | ((first | refine c5 (fun K hK => ?_) | refine d5 f8 (fun K hK => ?_) | refine a9 (cp hpa ?_) | refine a8 (dp hpa ?_) | refine a9 (cg hty [] ?_) | refine a8 (dg hty [] ?_) | fail); simp -implicitDefEqProofs [hn, h35, h29, b1, b2]) | refine hK _ ?_ | refine hK _ _ (by rfl) ?_ | fail)
    refine l7 (ι := Nat) (fun k => s7 [(2, .v (.c (.ptr 0 0))), (3, .v (.c (.ptr 1 0))), (4, .v (.c (.ptr 2 0))), (5, .v (.c (.row 3 6 (A.map tc)))), (6, vI (k : Nat))] [some (.box (ta (.mk mx ml))), some (.box (ta (.mk x [Tr.mk px pl, Tr.mk rx rl, Tr.mk bx bl]))), some (.box (ta z0T ++ [.pv (I 0), .pv (I 0)])), some (.row 25 6)]) (fun k => k ≤ A.length ∧ ∀ a ∈ A.take k, ¬ a0p (.mk mx ml) a = 0) (fun k => A.length - k) 0 ⟨Nat.zero_le _, by simp⟩ (by first | (refine f7 [0, 1, 2, 102] ?_ ?_ (by decide) rfl (by simp) <;> (simp -implicitDefEqProofs [hAe, hn, h35, h29]; done)) | (refine f7 [0, 1, 2, 105] ?_ ?_ (by decide) rfl (by simp) <;> (simp -implicitDefEqProofs [hAe, hn, h35, h29]; done)) | (refine f7 [0, 1, 2, 104] ?_ ?_ (by decide) rfl (by simp) <;> (simp -implicitDefEqProofs [hAe, hn, h35, h29]; done)) | (refine f7 [0, 1, 2, 106] ?_ ?_ (by decide) rfl (by simp) <;> (simp -implicitDefEqProofs [hAe, hn, h35, h29]; done)) | (refine f7 [0, 1, 2, 103] ?_ ?_ (by decide) rfl (by simp) <;> (simp -implicitDefEqProofs [hAe, hn, h35, h29]; done)) | (refine f7 [0, 1, 2, 101] ?_ ?_ (by decide) rfl (by simp) <;> (simp -implicitDefEqProofs [hAe, hn, h35, h29]; done)) | (refine f7 [0, 1, 2, 100] ?_ ?_ (by decide) rfl (by simp) <;> (simp -implicitDefEqProofs [hAe, hn, h35, h29]; done)) | (refine f7 [0, 1, 2, 99] ?_ ?_ (by decide) rfl (by simp) <;> (simp -implicitDefEqProofs [hAe, hn, h35, h29]; done))) (fun Z hI k hk => ?_)
    obtain ⟨hk, hz⟩ := hk
    by_cases hkl : k < A.length; rotate_left
    · have : k = A.length := by omega
      subst this
      rw [List.take_length] at hz
      repeat (first | refine d4 ?_ | refine b8 ?_ | refine b7 ?_ | refine b9 ?_ | refine f5 rfl ?_ | refine d8 rfl ?_ | ((first | refine c5 (fun K hK => ?_) | refine d5 f8 (fun K hK => ?_) | fail); simp -implicitDefEqProofs; first | refine hK _ ?_ | refine hK _ _ (by rfl) ?_ | fail) | fail)
      refine l7 (ι := Nat) (fun k => s7 [(2, .v (.c (.ptr 0 0))), (3, .v (.c (.ptr 1 0))), (4, .v (.c (.ptr 2 0))), (5, .v (.c (.row 3 6 (A.map tc)))), (7, vI (k : Nat))] [some (.box (ta (.mk mx ml))), some (.box (ta (.mk x [Tr.mk px pl, Tr.mk rx rl, Tr.mk bx bl]))), some (.box (ta z0T ++ [.pv (I 0), .pv (I 0)])), some (.row 25 6)]) (fun k => k ≤ A.length ∧ ∀ a ∈ A.take k, x.n = 1 → (decide (0 < a0p (.mk mx ml) a) && a4k a) = true) (fun k => A.length - k) 0 ⟨Nat.zero_le _, by simp⟩ (f7 [0, 1, 2, 3] (by simp -implicitDefEqProofs) (by simp -implicitDefEqProofs) (by decide) rfl (by simp)) (fun Z hI k hk => ?_)
      obtain ⟨hk, hz2⟩ := hk
      by_cases hkl : k < A.length; rotate_left
      · have : k = A.length := by omega
        subst this
        rw [List.take_length] at hz2
        have hR := ha3 hz hz2
        clear ha1 ha2 ha3 hce hpn
        by_cases he : ge = 0
        · replace hR := hR.trans (if_pos he)
          subst hR
          have he' := eq_true he
          repeat' (first | refine d4 ?_ | refine b8 ?_ | refine b7 ?_ | refine b9 ?_ | refine f5 rfl ?_ | refine d8 rfl ?_ | ((first | refine c5 (fun K hK => ?_) | refine d5 f8 (fun K hK => ?_) | refine a9 (cg hty [] ?_) | refine a8 (dg hty [] ?_) | refine a9 (cp hst ?_) | refine a8 (dp hst ?_) | refine a9 (cg hnm [] ?_) | refine a8 (dg hnm [] ?_) | fail); simp -implicitDefEqProofs [he']) | refine hK _ ?_ | refine hK _ _ (by rfl) ?_ | fail)
          refine aw_frz 124 25 6 ([Tr.mk ux ul, Tr.mk vx vl, Tr.mk cx cl].map tc) (by simp) ?_
          simp [St.frz, AV.frz, AT.frz, AC.frz, AO.frz]
          refine d7 (d6 ?_); simp -implicitDefEqProofs [g8, f9, g7] <;> try rfl
        · replace hR := hR.trans (if_neg he)
          subst hR
          repeat' (first | refine d4 ?_ | refine b8 ?_ | refine b7 ?_ | refine b9 ?_ | refine f5 rfl ?_ | refine d8 rfl ?_ | ((first | refine c5 (fun K hK => ?_) | refine d5 f8 (fun K hK => ?_) | refine a9 (cg hty [] ?_) | refine a8 (dg hty [] ?_) | refine a9 (cp hst ?_) | refine a8 (dp hst ?_) | fail); simp -implicitDefEqProofs [he]) | refine hK _ ?_ | refine hK _ _ (by rfl) ?_ | fail)
          refine d7 (d6 ?_); simp -implicitDefEqProofs [g8, f9, g7] <;> try rfl
      obtain ⟨⟨ax, al⟩, ha⟩ : ∃ a, A[k]? = some a := ⟨_, List.getElem?_eq_getElem hkl⟩
      have ha' := (List.getElem?_eq_some_iff.1 ha).2
      have w2 : IntKind.i64.wrap ((k : Nat) + 1 : Int) = (k : Nat) + 1 := k9 _ (by omega) (by omega)
      have hq := hpn _ (List.mem_of_getElem? ha)
      have hto := ha2 hz k ax al ha
      have hb := hba ax al 12
      have hnx : (x.n = 1 → (decide (0 < a0p (.mk mx ml) (.mk ax al)) && a4k (.mk ax al)) = true) → ∀ a ∈ A.take (k + 1), x.n = 1 → (decide (0 < a0p (.mk mx ml) a) && a4k a) = true := by
        intro he y hy
        rw [List.take_add_one, ha] at hy
        rcases List.mem_append.1 hy with hy | hy
        · exact hz2 y hy
        · simp at hy; subst hy; exact he
      obtain ⟨q, hqq⟩ : ∃ q, (decide (0 < a0p (.mk mx ml) (.mk ax al)) && a4k (.mk ax al)) = q := ⟨_, rfl⟩
      rw [hqq] at hq hto hnx
      unfold u9 at hto hb
      clear ha1 ha2 ha3 hce hpn hba hqq hst hnm hty
      by_cases hx1 : x.n = 1; rotate_left
      · try (exact absurd hn hx1)
        all_goals (
          repeat' (first | refine d4 ?_ | refine b8 ?_ | refine b7 ?_ | refine b9 ?_ | refine f5 rfl ?_ | refine d8 rfl ?_ | ((first | refine c5 (fun K hK => ?_) | refine d5 f8 (fun K hK => ?_) | refine a9 (cp hq ?_) | refine a8 (dp hq ?_) | fail); simp -implicitDefEqProofs [hkl, ha, ha', hn, w2]) | refine hK _ ?_ | refine hK _ _ (by rfl) ?_ | fail)
          refine ⟨k + 1, ⟨by omega, hnx (fun h => absurd h hx1)⟩, (by dsimp only; omega), ?_⟩
          rw [hI]; exact f7 [0, 1, 2, 3] (by simp -implicitDefEqProofs [hn]) (by simp -implicitDefEqProofs [hn]) (by decide) rfl (by simp))
      · try (exfalso; omega)
        all_goals (
          cases q with
          | true =>
            repeat' (first | refine d4 ?_ | refine b8 ?_ | refine b7 ?_ | refine b9 ?_ | refine f5 rfl ?_ | refine d8 rfl ?_ | ((first | refine c5 (fun K hK => ?_) | refine d5 f8 (fun K hK => ?_) | refine a9 (cp hq ?_) | refine a8 (dp hq ?_) | fail); simp -implicitDefEqProofs [hkl, ha, ha', hn, w2]) | refine hK _ ?_ | refine hK _ _ (by rfl) ?_ | fail)
            refine ⟨k + 1, ⟨by omega, hnx (fun _ => rfl)⟩, (by dsimp only; omega), ?_⟩
            rw [hI]; exact f7 [0, 1, 2, 3] (by simp -implicitDefEqProofs [hn]) (by simp -implicitDefEqProofs [hn]) (by decide) rfl (by simp)
          | false =>
            have hR := hto hn rfl hz2
            subst hR
            repeat' (first | refine d4 ?_ | refine b8 ?_ | refine b7 ?_ | refine b9 ?_ | refine f5 rfl ?_ | refine d8 rfl ?_ | ((first | refine c5 (fun K hK => ?_) | refine d5 f8 (fun K hK => ?_) | refine a9 (cp hq ?_) | refine a8 (dp hq ?_) | refine a9 (cp hb ?_) | refine a8 (dp hb ?_) | fail); simp -implicitDefEqProofs [hkl, ha, ha', hn]) | refine hK _ ?_ | refine hK _ _ (by rfl) ?_ | fail)
            refine d7 (d6 ?_); simp -implicitDefEqProofs [g8, f9, g7] <;> try rfl)
    obtain ⟨⟨ax, al⟩, ha⟩ : ∃ a, A[k]? = some a := ⟨_, List.getElem?_eq_getElem hkl⟩
    have ha' := (List.getElem?_eq_some_iff.1 ha).2
    have w2 : IntKind.i64.wrap ((k : Nat) + 1 : Int) = (k : Nat) + 1 := k9 _ (by omega) (by omega)
    have hq := hce _ (List.mem_of_getElem? ha)
    have hto := ha1 k ax al ha
    have hb := hba ax al 11
    have hnx : ¬ a0p (.mk mx ml) (.mk ax al) = 0 → ∀ a ∈ A.take (k + 1), ¬ a0p (.mk mx ml) a = 0 := by
      intro he y hy
      rw [List.take_add_one, ha] at hy
      rcases List.mem_append.1 hy with hy | hy
      · exact hz y hy
      · simp at hy; subst hy; exact he
    obtain ⟨q, hqq⟩ : ∃ q, a0p (.mk mx ml) (.mk ax al) = q := ⟨_, rfl⟩
    rw [hqq] at hq hto hnx
    unfold u9 at hto hb
    clear ha1 ha2 ha3 hce hpn hba hqq hst hnm hty
    by_cases q0 : q = 0
    · have hR := hto q0 hz
      subst hR
      repeat' (first | refine d4 ?_ | refine b8 ?_ | refine b7 ?_ | refine b9 ?_ | refine f5 rfl ?_ | refine d8 rfl ?_ | ((first | refine c5 (fun K hK => ?_) | refine d5 f8 (fun K hK => ?_) | refine a9 (cp hq ?_) | refine a8 (dp hq ?_) | refine a9 (cp hb ?_) | refine a8 (dp hb ?_) | fail); simp -implicitDefEqProofs [hkl, ha, ha', q0]) | refine hK _ ?_ | refine hK _ _ (by rfl) ?_ | fail)
      refine d7 (d6 ?_); simp -implicitDefEqProofs [g8, f9, g7] <;> try rfl
    · repeat' (first | refine d4 ?_ | refine b8 ?_ | refine b7 ?_ | refine b9 ?_ | refine f5 rfl ?_ | refine d8 rfl ?_ | ((first | refine c5 (fun K hK => ?_) | refine d5 f8 (fun K hK => ?_) | refine a9 (cp hq ?_) | refine a8 (dp hq ?_) | fail); simp -implicitDefEqProofs [hkl, ha, ha', q0, w2]) | refine hK _ ?_ | refine hK _ _ (by rfl) ?_ | fail)
      refine ⟨k + 1, ⟨by omega, hnx q0⟩, (by dsimp only; omega), ?_⟩
      rw [hI]; exact f7 [0, 1, 2, 3] (by simp -implicitDefEqProofs) (by simp -implicitDefEqProofs) (by decide) rfl (by simp))
theorem b43 (m : VT) (hm : t7 m) (hms : m.size ≤ 100000) (i : Nat) (t : VT) (hi : m.kids[i]? = some t) : Row Tryz.prog 24 [vT m, vI (i : Nat)] [] (vGr (a5x m i t)) [] := by
  have hts := p7 (List.mem_of_getElem? hi)
  have hti := a4o hm (List.mem_of_getElem? hi)
  obtain ⟨x, l⟩ := t
  have hfn := c2b m hm hms x l hti (by omega)
  have hsh := a1z (.mk x l) (by omega)
  have hb := fun e => n8 x l e
  have hnm := a2j (.mk x l) (by omega)
  obtain ⟨⟨nx, nl⟩, hnn⟩ : ∃ g, y6 (.mk x l) = g := ⟨_, rfl⟩
  unfold a5x
  rw [Tr.lab, Tr.kids]
  rw [hnn] at hnm ⊢
  clear hnn
  have hce : ∀ y, t7 y → y.size ≤ 100000 → Row Tryz.prog 47 [vT m, vT y] [] (vI (a0p m y)) [] := fun y h1 h2 => z9 m y hm (by omega) h1 (by omega)
  have hcr := hce (.mk ⟨4, i, ⟨#[]⟩, 0, 0⟩ []) ((Tr.all_mk _ _ _).2 ⟨⟨by simp, by
    have h1 := (List.getElem?_eq_some_iff.1 hi).1
    have h2 : m.kids.length < m.size := by obtain ⟨mx, ml⟩ := m; exact Tr.len_size (x := mx) (l := ml)
    constructor <;> (dsimp only; omega), by simp, by simp⟩, fun y hy => by simp at hy⟩) (by simp [Tr.size_mk])
  obtain ⟨c, hcc⟩ : ∃ c, a0p m (.mk ⟨4, i, ⟨#[]⟩, 0, 0⟩ []) = c := ⟨_, rfl⟩
  rw [hcc] at hcr ⊢
  have hml : m.kids.length < m.size := by obtain ⟨mx, ml⟩ := m; exact Tr.len_size (x := mx) (l := ml)
  have hil := (List.getElem?_eq_some_iff.1 hi).1
  have w0 : IntKind.i64.wrap ((i : Nat) : Int) = (i : Nat) := k9 _ (by omega) (by omega)
  have hi' := (List.getElem?_eq_some_iff.1 hi).2
  by_cases c33 : x.k = 33
  · rw [if_pos c33]
    obtain ⟨⟨⟨bx, bl⟩, gp, ge⟩, hG⟩ : ∃ g, fnT m x l = g := ⟨_, rfl⟩
    rw [hG] at hfn ⊢
    clear hG hce hcc
    obtain ⟨mx, ml⟩ := m
    rw [Tr.kids] at hi
    simp only [Tr.kids] at hil hi'
    refine f6 Tryz.func24 rfl rfl (Nat.le_of_ble_eq_true rfl) ?_
    repeat' (first | refine d4 ?_ | refine b8 ?_ | refine b7 ?_ | refine b9 ?_ | refine f5 rfl ?_ | refine d8 rfl ?_ | ((first | refine c5 (fun K hK => ?_) | refine d5 f8 (fun K hK => ?_) | refine a9 (cp hfn ?_) | refine a8 (dp hfn ?_) | fail); simp -implicitDefEqProofs [hil, hi, hi', c33]) | refine hK _ ?_ | refine hK _ _ (by rfl) ?_ | fail)
    refine d7 (d6 ?_); simp -implicitDefEqProofs [g8, f9, g7] <;> try rfl
  rw [if_neg c33]
  clear hfn
  by_cases c30 : x.k = 30
  · rw [if_pos c30]
    have hb12 := hb 12
    have hb11 := hb 11
    unfold u9 at hb12 hb11 ⊢
    obtain ⟨q, hq⟩ : ∃ q, b3t (.mk x l) = q := ⟨_, rfl⟩
    rw [hq] at hsh ⊢
    clear hce hcc hq hb
    obtain ⟨mx, ml⟩ := m
    rw [Tr.kids] at hi
    simp only [Tr.kids] at hil hi'
    cases q with
    | false =>
      rw [if_pos rfl]
      refine f6 Tryz.func24 rfl rfl (Nat.le_of_ble_eq_true rfl) ?_
      repeat' (first | refine d4 ?_ | refine b8 ?_ | refine b7 ?_ | refine b9 ?_ | refine f5 rfl ?_ | refine d8 rfl ?_ | ((first | refine c5 (fun K hK => ?_) | refine d5 f8 (fun K hK => ?_) | refine a9 (cp hsh ?_) | refine a8 (dp hsh ?_) | refine a9 (cp hb12 ?_) | refine a8 (dp hb12 ?_) | fail); simp -implicitDefEqProofs [hil, hi, hi', c33, c30, w0]) | refine hK _ ?_ | refine hK _ _ (by rfl) ?_ | fail)
      refine d7 (d6 ?_); simp -implicitDefEqProofs [g8, f9, g7] <;> try rfl
    | true =>
      rw [if_neg (by simp)]
      by_cases c0 : c = 0
      · rw [if_pos c0]
        refine f6 Tryz.func24 rfl rfl (Nat.le_of_ble_eq_true rfl) ?_
        repeat' (first | refine d4 ?_ | refine b8 ?_ | refine b7 ?_ | refine b9 ?_ | refine f5 rfl ?_ | refine d8 rfl ?_ | ((first | refine c5 (fun K hK => ?_) | refine d5 f8 (fun K hK => ?_) | refine a9 (cp hsh ?_) | refine a8 (dp hsh ?_) | refine a9 (cp hcr ?_) | refine a8 (dp hcr ?_) | refine a9 (cp hb11 ?_) | refine a8 (dp hb11 ?_) | fail); simp -implicitDefEqProofs [hil, hi, hi', c33, c30, w0, c0]) | refine hK _ ?_ | refine hK _ _ (by rfl) ?_ | fail)
        refine d7 (d6 ?_); simp -implicitDefEqProofs [g8, f9, g7] <;> try rfl
      · rw [if_neg c0]
        refine f6 Tryz.func24 rfl rfl (Nat.le_of_ble_eq_true rfl) ?_
        repeat' (first | refine d4 ?_ | refine b8 ?_ | refine b7 ?_ | refine b9 ?_ | refine f5 rfl ?_ | refine d8 rfl ?_ | ((first | refine c5 (fun K hK => ?_) | refine d5 f8 (fun K hK => ?_) | refine a9 (cp hsh ?_) | refine a8 (dp hsh ?_) | refine a9 (cp hcr ?_) | refine a8 (dp hcr ?_) | refine a9 (cp hnm ?_) | refine a8 (dp hnm ?_) | fail); simp -implicitDefEqProofs [hil, hi, hi', c33, c30, w0, c0]) | refine hK _ ?_ | refine hK _ _ (by rfl) ?_ | fail)
        refine d7 (d6 ?_); simp -implicitDefEqProofs [g8, f9, g7] <;> try rfl
  rw [if_neg c30]
  clear hsh hcr hcc
  by_cases c32 : x.k = 32 ∧ l.length = 1
  · rw [if_pos c32]
    obtain ⟨c32, l1⟩ := c32
    obtain ⟨⟨ax, al⟩, rfl⟩ := w6 l1
    have hs1 := Tr.size_at (x := x) (l := [Tr.mk ax al]) (i := 0) rfl
    have hca := hce (.mk ax al) (((Tr.all_mk _ _ _).1 hti).2 _ (by simp)) (by omega)
    have hba := n8 ax al 11
    rw [show [Tr.mk ax al].getD 0 z0T = .mk ax al from rfl, Tr.lab]
    obtain ⟨q, hq⟩ : ∃ q, a0p m (.mk ax al) = q := ⟨_, rfl⟩
    rw [hq] at hca ⊢
    unfold u9 at hba ⊢
    clear hce hq hb
    obtain ⟨mx, ml⟩ := m
    rw [Tr.kids] at hi
    simp only [Tr.kids] at hil hi'
    by_cases c0 : q = 0
    · rw [if_pos c0]
      refine f6 Tryz.func24 rfl rfl (Nat.le_of_ble_eq_true rfl) ?_
      repeat' (first | refine d4 ?_ | refine b8 ?_ | refine b7 ?_ | refine b9 ?_ | refine f5 rfl ?_ | refine d8 rfl ?_ | ((first | refine c5 (fun K hK => ?_) | refine d5 f8 (fun K hK => ?_) | refine a9 (cp hca ?_) | refine a8 (dp hca ?_) | refine a9 (cp hba ?_) | refine a8 (dp hba ?_) | fail); simp -implicitDefEqProofs [hil, hi, hi', c32, c0]) | refine hK _ ?_ | refine hK _ _ (by rfl) ?_ | fail)
      refine d7 (d6 ?_); simp -implicitDefEqProofs [g8, f9, g7] <;> try rfl
    · rw [if_neg c0]
      refine f6 Tryz.func24 rfl rfl (Nat.le_of_ble_eq_true rfl) ?_
      repeat' (first | refine d4 ?_ | refine b8 ?_ | refine b7 ?_ | refine b9 ?_ | refine f5 rfl ?_ | refine d8 rfl ?_ | ((first | refine c5 (fun K hK => ?_) | refine d5 f8 (fun K hK => ?_) | refine a9 (cp hca ?_) | refine a8 (dp hca ?_) | refine a9 (cp hnm ?_) | refine a8 (dp hnm ?_) | fail); simp -implicitDefEqProofs [hil, hi, hi', c32, c0]) | refine hK _ ?_ | refine hK _ _ (by rfl) ?_ | fail)
      refine d7 (d6 ?_); simp -implicitDefEqProofs [g8, f9, g7] <;> try rfl
  rw [if_neg c32]
  clear hce
  have hb12 := hb 12
  clear hb
  have hgo : ∀ P : Prop, P ∨ ¬ P := Classical.em
  have c32' : ¬ x.k = 32 ∨ (x.k = 32 ∧ ¬ l.length = 1 ∧ ¬ (l.length : Int) = 1) := by
    by_cases h : x.k = 32
    · exact .inr ⟨h, fun g => c32 ⟨h, g⟩, fun g => c32 ⟨h, by omega⟩⟩
    · exact .inl h
  clear c32
  rcases c32' with c32 | ⟨c32, l1, l1'⟩; rotate_left
  · rw [if_pos (.inl (by omega))]
    unfold u9 at hb12 ⊢
    obtain ⟨mx, ml⟩ := m
    rw [Tr.kids] at hi
    simp only [Tr.kids] at hil hi'
    refine f6 Tryz.func24 rfl rfl (Nat.le_of_ble_eq_true rfl) ?_
    repeat' (first | refine d4 ?_ | refine b8 ?_ | refine b7 ?_ | refine b9 ?_ | refine f5 rfl ?_ | refine d8 rfl ?_ | ((first | refine c5 (fun K hK => ?_) | refine d5 f8 (fun K hK => ?_) | refine a9 (cp hb12 ?_) | refine a8 (dp hb12 ?_) | fail); simp -implicitDefEqProofs [hil, hi, hi', c32, l1, l1']) | refine hK _ ?_ | refine hK _ _ (by rfl) ?_ | fail)
    refine d7 (d6 ?_); simp -implicitDefEqProofs [g8, f9, g7] <;> try rfl
  by_cases c31 : x.k = 31; rotate_left
  · rw [if_pos (.inl c31)]
    unfold u9 at hb12 ⊢
    obtain ⟨mx, ml⟩ := m
    rw [Tr.kids] at hi
    simp only [Tr.kids] at hil hi'
    refine f6 Tryz.func24 rfl rfl (Nat.le_of_ble_eq_true rfl) ?_
    repeat' (first | refine d4 ?_ | refine b8 ?_ | refine b7 ?_ | refine b9 ?_ | refine f5 rfl ?_ | refine d8 rfl ?_ | ((first | refine c5 (fun K hK => ?_) | refine d5 f8 (fun K hK => ?_) | refine a9 (cp hb12 ?_) | refine a8 (dp hb12 ?_) | fail); simp -implicitDefEqProofs [hil, hi, hi', c33, c30, c32, c31]) | refine hK _ ?_ | refine hK _ _ (by rfl) ?_ | fail)
    refine d7 (d6 ?_); simp -implicitDefEqProofs [g8, f9, g7] <;> try rfl
  by_cases l1 : l.length = 1; rotate_left
  · have l1' : ¬ (l.length : Int) = 1 := by omega
    rw [if_pos (.inr (.inl l1))]
    unfold u9 at hb12 ⊢
    obtain ⟨mx, ml⟩ := m
    rw [Tr.kids] at hi
    simp only [Tr.kids] at hil hi'
    refine f6 Tryz.func24 rfl rfl (Nat.le_of_ble_eq_true rfl) ?_
    repeat' (first | refine d4 ?_ | refine b8 ?_ | refine b7 ?_ | refine b9 ?_ | refine f5 rfl ?_ | refine d8 rfl ?_ | ((first | refine c5 (fun K hK => ?_) | refine d5 f8 (fun K hK => ?_) | refine a9 (cp hb12 ?_) | refine a8 (dp hb12 ?_) | fail); simp -implicitDefEqProofs [hil, hi, hi', c31, l1, l1']) | refine hK _ ?_ | refine hK _ _ (by rfl) ?_ | fail)
    refine d7 (d6 ?_); simp -implicitDefEqProofs [g8, f9, g7] <;> try rfl
  obtain ⟨⟨ax, al⟩, rfl⟩ := w6 l1
  rw [show [Tr.mk ax al].getD 0 z0T = .mk ax al from rfl, Tr.lab, Tr.kids]
  by_cases a0 : 0 < al.length
  · have a0' : (0 : Int) < (al.length : Int) := by omega
    rw [if_pos (.inr (.inr (.inl a0)))]
    unfold u9 at hb12 ⊢
    obtain ⟨mx, ml⟩ := m
    rw [Tr.kids] at hi
    simp only [Tr.kids] at hil hi'
    refine f6 Tryz.func24 rfl rfl (Nat.le_of_ble_eq_true rfl) ?_
    repeat' (first | refine d4 ?_ | refine b8 ?_ | refine b7 ?_ | refine b9 ?_ | refine f5 rfl ?_ | refine d8 rfl ?_ | ((first | refine c5 (fun K hK => ?_) | refine d5 f8 (fun K hK => ?_) | refine a9 (cp hb12 ?_) | refine a8 (dp hb12 ?_) | fail); simp -implicitDefEqProofs [hil, hi, hi', c31, a0, a0']) | refine hK _ ?_ | refine hK _ _ (by rfl) ?_ | fail)
    refine d7 (d6 ?_); simp -implicitDefEqProofs [g8, f9, g7] <;> try rfl
  have : al = [] := List.eq_nil_of_length_eq_zero (by omega)
  subst this
  have hlt := a3y (.mk ax [])
  have hlk := c3n (.mk ax [])
  rw [Tr.lab] at hlk
  obtain ⟨⟨ux, ul⟩, hu⟩ : ∃ g, a5c (.mk ax []) = g := ⟨_, rfl⟩
  rw [hu] at hlt hlk ⊢
  rw [Tr.lab] at hlk ⊢
  clear hu
  by_cases c0 : ux.k = 0
  · rw [if_pos (.inr (.inr (.inr (.inl c0))))]
    unfold u9 at hb12 ⊢
    obtain ⟨mx, ml⟩ := m
    rw [Tr.kids] at hi
    simp only [Tr.kids] at hil hi'
    refine f6 Tryz.func24 rfl rfl (Nat.le_of_ble_eq_true rfl) ?_
    repeat' (first | refine d4 ?_ | refine b8 ?_ | refine b7 ?_ | refine b9 ?_ | refine f5 rfl ?_ | refine d8 rfl ?_ | ((first | refine c5 (fun K hK => ?_) | refine d5 f8 (fun K hK => ?_) | refine a9 (cp hlt ?_) | refine a8 (dp hlt ?_) | refine a9 (cp hb12 ?_) | refine a8 (dp hb12 ?_) | fail); simp -implicitDefEqProofs [hil, hi, hi', c31, c0]) | refine hK _ ?_ | refine hK _ _ (by rfl) ?_ | fail)
    refine d7 (d6 ?_); simp -implicitDefEqProofs [g8, f9, g7] <;> try rfl
  clear hlk
  by_cases c6 : ax.k = 6; rotate_left
  · rw [if_neg (by simp [c31, c0, c6])]
    obtain ⟨mx, ml⟩ := m
    rw [Tr.kids] at hi
    simp only [Tr.kids] at hil hi'
    refine f6 Tryz.func24 rfl rfl (Nat.le_of_ble_eq_true rfl) ?_
    repeat' (first | refine d4 ?_ | refine b8 ?_ | refine b7 ?_ | refine b9 ?_ | refine f5 rfl ?_ | refine d8 rfl ?_ | ((first | refine c5 (fun K hK => ?_) | refine d5 f8 (fun K hK => ?_) | refine a9 (cp hlt ?_) | refine a8 (dp hlt ?_) | refine a9 (cp hnm ?_) | refine a8 (dp hnm ?_) | fail); simp -implicitDefEqProofs [hil, hi, hi', c31, c0, c6]) | refine hK _ ?_ | refine hK _ _ (by rfl) ?_ | fail)
    refine d7 (d6 ?_); simp -implicitDefEqProofs [g8, f9, g7] <;> try rfl
  by_cases n0 : ax.n = 0
  · rw [if_neg (by simp [c31, c0, c6, n0])]
    obtain ⟨mx, ml⟩ := m
    rw [Tr.kids] at hi
    simp only [Tr.kids] at hil hi'
    refine f6 Tryz.func24 rfl rfl (Nat.le_of_ble_eq_true rfl) ?_
    repeat' (first | refine d4 ?_ | refine b8 ?_ | refine b7 ?_ | refine b9 ?_ | refine f5 rfl ?_ | refine d8 rfl ?_ | ((first | refine c5 (fun K hK => ?_) | refine d5 f8 (fun K hK => ?_) | refine a9 (cp hlt ?_) | refine a8 (dp hlt ?_) | refine a9 (cp hnm ?_) | refine a8 (dp hnm ?_) | fail); simp -implicitDefEqProofs [hil, hi, hi', c31, c0, c6, n0]) | refine hK _ ?_ | refine hK _ _ (by rfl) ?_ | fail)
    refine d7 (d6 ?_); simp -implicitDefEqProofs [g8, f9, g7] <;> try rfl
  by_cases n1 : ax.n = 1
  · rw [if_neg (by simp [c31, c0, c6, n1])]
    obtain ⟨mx, ml⟩ := m
    rw [Tr.kids] at hi
    simp only [Tr.kids] at hil hi'
    refine f6 Tryz.func24 rfl rfl (Nat.le_of_ble_eq_true rfl) ?_
    repeat' (first | refine d4 ?_ | refine b8 ?_ | refine b7 ?_ | refine b9 ?_ | refine f5 rfl ?_ | refine d8 rfl ?_ | ((first | refine c5 (fun K hK => ?_) | refine d5 f8 (fun K hK => ?_) | refine a9 (cp hlt ?_) | refine a8 (dp hlt ?_) | refine a9 (cp hnm ?_) | refine a8 (dp hnm ?_) | fail); simp -implicitDefEqProofs [hil, hi, hi', c31, c0, c6, n1]) | refine hK _ ?_ | refine hK _ _ (by rfl) ?_ | fail)
    refine d7 (d6 ?_); simp -implicitDefEqProofs [g8, f9, g7] <;> try rfl
  · rw [if_pos (.inr (.inr (.inr (.inr ⟨c6, n0, n1⟩))))]
    unfold u9 at hb12 ⊢
    obtain ⟨mx, ml⟩ := m
    rw [Tr.kids] at hi
    simp only [Tr.kids] at hil hi'
    refine f6 Tryz.func24 rfl rfl (Nat.le_of_ble_eq_true rfl) ?_
    repeat' (first | refine d4 ?_ | refine b8 ?_ | refine b7 ?_ | refine b9 ?_ | refine f5 rfl ?_ | refine d8 rfl ?_ | ((first | refine c5 (fun K hK => ?_) | refine d5 f8 (fun K hK => ?_) | refine a9 (cp hlt ?_) | refine a8 (dp hlt ?_) | refine a9 (cp hb12 ?_) | refine a8 (dp hb12 ?_) | fail); simp -implicitDefEqProofs [hil, hi, hi', c31, c0, c6, n0, n1]) | refine hK _ ?_ | refine hK _ _ (by rfl) ?_ | fail)
    refine d7 (d6 ?_); simp -implicitDefEqProofs [g8, f9, g7] <;> try rfl
theorem a82 (m : VT) : ∀ (l : List VT) (i k : Nat), (x6 m i l)[k]? = (l[k]?).map (a5x m (i + k))
  | [], i, k => by simp [x6]
  | y :: r, i, 0 => by simp [x6]
  | y :: r, i, k + 1 => by
    rw [x6, List.getElem?_cons_succ, a82 m r (i + 1) k, List.getElem?_cons_succ, show i + 1 + k = i + (k + 1) by omega]
theorem a83 (m : VT) : ∀ (l : List VT) (i : Nat), (x6 m i l).length = l.length
  | [], i => rfl
  | y :: r, i => by rw [x6, List.length_cons, a83 m r, List.length_cons]
noncomputable abbrev vTIE (g : GR) : AV := .tup [.agg (ta g.t), .c (.pv (I g.pl)), .c (.pv (I g.er))]
theorem b1x (m : VT) (hm : t7 m) (hms : m.size ≤ 100000) : Row Tryz.prog 12 [vT m] [] (vTIE (a8e m)) [] := by
  have hde := fun i t h => b43 m hm hms i t h
  obtain ⟨x, l⟩ := m
  have hlen := Tr.len_size (x := x) (l := l)
  by_cases c36 : x.k = 36; rotate_left
  · rw [show a8e (.mk x l) = u9 x 12 by unfold a8e; exact if_pos c36]
    unfold u9
    clear hde
    refine f6 Tryz.func12 rfl rfl (Nat.le_of_ble_eq_true rfl) ?_
    repeat (first | refine d4 ?_ | refine b8 ?_ | refine b7 ?_ | refine b9 ?_ | refine f5 rfl ?_ | refine d8 rfl ?_ | ((first | refine c5 (fun K hK => ?_) | refine d5 f8 (fun K hK => ?_) | fail); simp -implicitDefEqProofs [c36]; first | refine hK _ ?_ | refine hK _ _ (by rfl) ?_ | fail) | fail)
    refine d7 (d6 ?_); simp -implicitDefEqProofs [g8, f9, g7] <;> try rfl
  obtain ⟨F, hF⟩ : ∃ F, a8e (.mk x l) = F := ⟨_, rfl⟩
  rw [hF]
  have hF2 : (match (x6 (.mk x l) 0 l).find? (fun g => !decide (g.er = 0)) with
    | some g => ⟨z0T, g.pl, g.er⟩
    | none => ⟨.mk ⟨x.k, x.n, ⟨#[]⟩, 0, 0⟩ ((x6 (.mk x l) 0 l).map GR.t), 0, 0⟩ : GR) = F := by
    rw [← hF]
    unfold a8e
    exact (if_neg (fun h => h c36)).symm
  obtain ⟨P, hP⟩ : ∃ P, x6 (.mk x l) 0 l = P := ⟨_, rfl⟩
  have hPg : ∀ (k : Nat) y, l[k]? = some y → P[k]? = some (a5x (.mk x l) k y) := fun k y hy => by
    rw [← hP, a82, hy, Nat.zero_add]; rfl
  have hPl : P.length = l.length := by rw [← hP, a83]
  rw [hP] at hF2
  have hat : ∀ (k : Nat) y, l[k]? = some y → ¬ (a5x (.mk x l) k y).er = 0 → (∀ g ∈ P.take k, g.er = 0) → F = ⟨z0T, (a5x (.mk x l) k y).pl, (a5x (.mk x l) k y).er⟩ := by
    intro k y hy he hno
    rw [← hF2, a4g (k := k) (hPg k y hy) (by simpa using he) (fun g hg => by simpa using hno g hg)]
  obtain ⟨Q, hQ⟩ : ∃ Q : List VT, P.map GR.t = Q := ⟨_, rfl⟩
  have hend : (∀ g ∈ P, g.er = 0) → F = ⟨.mk ⟨x.k, x.n, ⟨#[]⟩, 0, 0⟩ Q, 0, 0⟩ := by
    intro hno
    rw [← hF2, List.find?_eq_none.2 (fun g hg => by simpa using hno g hg), ← hQ]
  have hQl : Q.length = l.length := by rw [← hQ, List.length_map, hPl]
  have hQk : ∀ (k : Nat) y, l[k]? = some y → Q.take (k + 1) = Q.take k ++ [(a5x (.mk x l) k y).t] := fun k y h => by
    rw [List.take_add_one, ← hQ, List.getElem?_map, hPg k y h]; rfl
  have hPk : ∀ (k : Nat) y, l[k]? = some y → P.take (k + 1) = P.take k ++ [a5x (.mk x l) k y] := fun k y h => by
    rw [List.take_add_one, hPg k y h]; rfl
  clear hF hF2 hP hQ hPg
  refine f6 Tryz.func12 rfl rfl (Nat.le_of_ble_eq_true rfl) ?_
  repeat (first | refine d4 ?_ | refine b8 ?_ | refine b7 ?_ | refine b9 ?_ | refine f5 rfl ?_ | refine d8 rfl ?_ | ((first | refine c5 (fun K hK => ?_) | refine d5 f8 (fun K hK => ?_) | fail); simp -implicitDefEqProofs [c36]; first | refine hK _ ?_ | refine hK _ _ (by rfl) ?_ | fail) | fail)
  refine l7 (ι := Nat) (fun k => s7 [(1, .v (.c (.ptr 0 0))), (2, .v (.c (.ptr 1 0))), (5, .v (.c (.ptr 2 0))), (6, vI (k : Nat))] [some (.box (ta (.mk x l))), some (.box (ta z0T)), some (.box [.pv (I x.k), .pv (I x.n), .pv (Sx ⟨#[]⟩), .row 3 6 ((Q.take k).map tc), .pv (I 0), .pv (I 0)]), some (.row 25 6)]) (fun k => k ≤ l.length ∧ ∀ g ∈ P.take k, g.er = 0) (fun k => l.length - k) 0 ⟨Nat.zero_le _, by simp⟩ (f7 [0, 1, 13, 11] (by simp -implicitDefEqProofs [c36]) (by simp -implicitDefEqProofs [c36]) (by decide) rfl (by simp)) (fun Z hI k hk => ?_)
  obtain ⟨hk, hz⟩ := hk
  by_cases hkl : k < l.length; rotate_left
  · have : k = l.length := by omega
    subst this
    rw [List.take_of_length_le (by omega)] at hz
    have hF := hend hz
    subst hF
    have e2 : Q.take l.length = Q := List.take_of_length_le (by omega)
    rw [e2]
    clear hat hend hPk hQk hde
    repeat (first | refine d4 ?_ | refine b8 ?_ | refine b7 ?_ | refine b9 ?_ | refine f5 rfl ?_ | refine d8 rfl ?_ | ((first | refine c5 (fun K hK => ?_) | refine d5 f8 (fun K hK => ?_) | fail); simp -implicitDefEqProofs; first | refine hK _ ?_ | refine hK _ _ (by rfl) ?_ | fail) | fail)
    refine d7 (d6 ?_); simp -implicitDefEqProofs [g8, f9, g7] <;> try rfl
  obtain ⟨y, ha⟩ : ∃ a, l[k]? = some a := ⟨_, List.getElem?_eq_getElem hkl⟩
  have hc := hde k y ha
  have w2 : IntKind.i64.wrap ((k : Nat) + 1 : Int) = (k : Nat) + 1 := k9 _ (by omega) (by omega)
  have hs := hQk k _ ha
  have hpk := hPk k _ ha
  have hto := hat k y ha
  have hQkl : (Q.take k).length = k := by rw [List.length_take]; omega
  obtain ⟨QK, hQK⟩ : ∃ QK, Q.take k = QK := ⟨_, rfl⟩
  obtain ⟨⟨⟨bx, bl⟩, gp, ge⟩, hG⟩ : ∃ g, a5x (.mk x l) k y = g := ⟨_, rfl⟩
  rw [hG] at hc hs hpk hto
  rw [hQK] at hs hQkl ⊢
  clear hG hQK hat hend hPk hQk hde
  have b1 : (k + 1) * 72 ≤ 140737488355328 := by omega
  have b2 : k + 1 ≤ 140737488355328 := by omega
  by_cases he : ge = 0
  · subst he
    repeat' (first | refine d4 ?_ | refine b8 ?_ | refine b7 ?_ | refine b9 ?_ | refine f5 rfl ?_ | refine d8 rfl ?_ | ((first | refine c5 (fun K hK => ?_) | refine d5 f8 (fun K hK => ?_) | refine a9 (cp hc ?_) | refine a8 (dp hc ?_) | fail); simp -implicitDefEqProofs [hkl, hQkl, b1, b2, w2]) | refine hK _ ?_ | refine hK _ _ (by rfl) ?_ | fail)
    refine ⟨k + 1, ⟨by omega, fun g hg => ?_⟩, (by dsimp only; omega), ?_⟩
    · rw [hpk] at hg
      rcases List.mem_append.1 hg with hg | hg
      · exact hz g hg
      · simp at hg; subst hg; rfl
    · rw [hI, hs]; exact f7 [0, 1, 2, 29] (by simp -implicitDefEqProofs) (by simp -implicitDefEqProofs) (by decide) rfl (by simp)
  · have hF := hto he hz
    subst hF
    repeat' (first | refine d4 ?_ | refine b8 ?_ | refine b7 ?_ | refine b9 ?_ | refine f5 rfl ?_ | refine d8 rfl ?_ | ((first | refine c5 (fun K hK => ?_) | refine d5 f8 (fun K hK => ?_) | refine a9 (cp hc ?_) | refine a8 (dp hc ?_) | fail); simp -implicitDefEqProofs [hkl, he]) | refine hK _ ?_ | refine hK _ _ (by rfl) ?_ | fail)
    refine d7 (d6 ?_); simp -implicitDefEqProofs [g8, f9, g7] <;> try rfl
theorem b68 (m : VT) (i : Nat) (t : VT) : (a5x m i t).t.size ≤ t.size := by
  have hn : (y6 t).size ≤ t.size := by rw [a4r]; exact Nat.le_refl _
  obtain ⟨x, l⟩ := t
  unfold a5x
  rw [Tr.lab, Tr.kids]
  split
  · unfold fnT
    split
    · exact m6 _ _ _
    · rename_i hno
      split
      · exact m6 _ _ _
      · split
        · exact m6 _ _ _
        · have h3 : l.length = 3 := Classical.byContradiction fun h => hno (.inr (.inl h))
          obtain ⟨a, b, c, rfl⟩ := a72 h3
          rw [show [a, b, c].getD 0 z0T = a from rfl, show [a, b, c].getD 1 z0T = b from rfl, show [a, b, c].getD 2 z0T = c from rfl]
          have hs := b9j m b c (a12 (.mk x [a, b, c]))
          split
          · rw [Tr.size_mk, Tr.size_mk]
            simp only [List.map_cons, List.map_nil, List.sum_cons, List.sum_nil, a4r]
            omega
          · have := a4n (x := x) (l := [a, b, c]) (y := c) (by simp)
            omega
  · split
    · split
      · exact m6 _ _ _
      · split
        · exact m6 _ _ _
        · exact hn
    · split
      · split
        · exact m6 _ _ _
        · exact hn
      · split
        · exact m6 _ _ _
        · exact hn
theorem a50 (m : VT) : ∀ (l : List VT) (i : Nat), (((x6 m i l).map GR.t).map Tr.size).sum ≤ (l.map Tr.size).sum
  | [], i => by simp [x6]
  | y :: r, i => by
    rw [x6]
    simp only [List.map_cons, List.sum_cons]
    have h1 := b68 m i y
    have h2 := a50 m r (i + 1)
    omega
theorem b72 (m : VT) : (a8e m).t.size ≤ m.size := by
  unfold a8e
  split
  · exact m6 _ _ _
  · split
    · show z0T.size ≤ _
      have := Tr.size_pos m
      rw [show z0T.size = 1 by simp [Tr.size_mk]]; exact this
    · show (Tr.mk _ _).size ≤ _
      obtain ⟨x, l⟩ := m
      rw [Tr.size_mk, Tr.size_mk]
      exact Nat.add_le_add_left (a50 _ l 0) 1
theorem b5b (f : Fc) (hf : okF f) : Row Tryz.prog 8 [vF f, vF f] [] (vB true) [] := by
  have h := b9z f f hf hf
  have ht : r7 f f = true := by
    unfold r7
    rw [a45]
    have : a0v same f.ps f.ps f.ps.length = true := by
      have key : ∀ k, k ≤ f.ps.length → a0v same f.ps f.ps k = true := fun k => by
        induction k with
        | zero => intro _; exact a07 _ _ _
        | succ k ih =>
          intro hk
          have h1 : f.ps[k]? = some (f.ps[k]'(by omega)) := List.getElem?_eq_getElem _
          rw [t6 h1 h1, ih (by omega), a45]; rfl
      exact key _ (Nat.le_refl _)
    rw [this]; simp
  rw [ht] at h
  clear ht
  obtain ⟨fn, fp, ⟨frx, frl⟩, fd⟩ := f
  refine f6 Tryz.func8 rfl rfl (Nat.le_of_ble_eq_true rfl) ?_
  repeat' (first | refine d4 ?_ | refine b8 ?_ | refine b7 ?_ | refine b9 ?_ | refine f5 rfl ?_ | refine d8 rfl ?_ | ((first | refine c5 (fun K hK => ?_) | refine d5 f8 (fun K hK => ?_) | refine a9 (cp h ?_) | refine a8 (dp h ?_) | fail); simp -implicitDefEqProofs) | refine hK _ ?_ | refine hK _ _ (by rfl) ?_ | fail)
  refine d7 (d6 ?_); simp -implicitDefEqProofs [g8, f9, g7] <;> try rfl
noncomputable def c6t (s : ByteArray) : VT × VT × Int × Int :=
  if ¬ (o7 s).2.2 = 0 then (z0T, z0T, (o7 s).2.1, (o7 s).2.2)
  else if ¬ (a2i (o7 s).1.lab (o7 s).1.kids).er = 0 then (z0T, z0T, (a2i (o7 s).1.lab (o7 s).1.kids).pl, (a2i (o7 s).1.lab (o7 s).1.kids).er)
  else if ¬ (a8e (a2i (o7 s).1.lab (o7 s).1.kids).t).er = 0 then (z0T, z0T, (a8e (a2i (o7 s).1.lab (o7 s).1.kids).t).pl, (a8e (a2i (o7 s).1.lab (o7 s).1.kids).t).er)
  else ((o7 s).1, (a8e (a2i (o7 s).1.lab (o7 s).1.kids).t).t, 0, 0)
noncomputable abbrev vRd (r : VT × VT × Int × Int) : AV := .tup [.agg (ta r.1), .agg (ta r.2.1), .c (.pv (I r.2.2.1)), .c (.pv (I r.2.2.2))]
theorem b8z (s : ByteArray) (hs : s.size ≤ 8000) : Row Tryz.prog 5 [vS s] [] (vRd (c6t s)) [] := by
  have h := b14 s hs
  have hz := b0b s hs
  have hsc := fun x l e => @b3z s x l e
  have hin := c68 s
  unfold c6t
  obtain ⟨⟨⟨mx, ml⟩, a, e⟩, hr⟩ : ∃ r, o7 s = r := ⟨_, rfl⟩
  rw [hr] at h hz hsc hin ⊢
  dsimp only at hz hsc hin ⊢
  have hsc := hsc mx ml rfl
  clear hr
  by_cases he : e = 0; rotate_left
  · rw [if_pos he]
    refine f6 Tryz.func5 rfl rfl (Nat.le_of_ble_eq_true rfl) ?_
    repeat' (first | refine d4 ?_ | refine b8 ?_ | refine b7 ?_ | refine b9 ?_ | refine f5 rfl ?_ | refine d8 rfl ?_ | ((first | refine c5 (fun K hK => ?_) | refine d5 f8 (fun K hK => ?_) | refine a9 (cp h ?_) | refine a8 (dp h ?_) | fail); simp -implicitDefEqProofs [he]) | refine hK _ ?_ | refine hK _ _ (by rfl) ?_ | fail)
    refine d7 (d6 ?_); simp -implicitDefEqProofs [g8, f9, g7, he] <;> try rfl
  subst he
  rw [if_neg (by simp)]
  have hin := hin rfl
  rw [Tr.lab, Tr.kids]
  have hlen := Tr.len_size (x := mx) (l := ml)
  have hpart : ∀ d ∈ ml, d.size ≤ 40000 := fun d hd => by
    obtain ⟨i, hi⟩ := List.mem_iff_getElem?.1 hd
    have := Tr.size_at (x := mx) hi
    omega
  have r2 := b9i mx ml (by omega) (fun d hd => ⟨hsc d hd, hpart d hd⟩)
  have hrs := c4g mx ml hsc
  have hri := res_in mx ml hin (by omega) hsc
  obtain ⟨⟨⟨ox, ol⟩, b, f⟩, hq⟩ : ∃ r, a2i mx ml = r := ⟨_, rfl⟩
  rw [hq] at r2 hrs hri ⊢
  dsimp only at r2 hrs hri ⊢
  clear hq
  by_cases hf : f = 0; rotate_left
  · rw [if_pos hf]
    refine f6 Tryz.func5 rfl rfl (Nat.le_of_ble_eq_true rfl) ?_
    repeat' (first | refine d4 ?_ | refine b8 ?_ | refine b7 ?_ | refine b9 ?_ | refine f5 rfl ?_ | refine d8 rfl ?_ | ((first | refine c5 (fun K hK => ?_) | refine d5 f8 (fun K hK => ?_) | refine a9 (cp h ?_) | refine a8 (dp h ?_) | refine a9 (cp r2 ?_) | refine a8 (dp r2 ?_) | fail); simp -implicitDefEqProofs [hf]) | refine hK _ ?_ | refine hK _ _ (by rfl) ?_ | fail)
    refine d7 (d6 ?_); simp -implicitDefEqProofs [g8, f9, g7, hf] <;> try rfl
  subst hf
  rw [if_neg (by simp)]
  have r3 := b1x (.mk ox ol) (hri rfl) (by omega)
  obtain ⟨⟨⟨px, pl⟩, c, g⟩, hm⟩ : ∃ r, a8e (.mk ox ol) = r := ⟨_, rfl⟩
  rw [hm] at r3 ⊢
  dsimp only at r3 ⊢
  clear hm
  by_cases hg : g = 0; rotate_left
  · rw [if_pos hg]
    refine f6 Tryz.func5 rfl rfl (Nat.le_of_ble_eq_true rfl) ?_
    repeat' (first | refine d4 ?_ | refine b8 ?_ | refine b7 ?_ | refine b9 ?_ | refine f5 rfl ?_ | refine d8 rfl ?_ | ((first | refine c5 (fun K hK => ?_) | refine d5 f8 (fun K hK => ?_) | refine a9 (cp h ?_) | refine a8 (dp h ?_) | refine a9 (cp r2 ?_) | refine a8 (dp r2 ?_) | refine a9 (cp r3 ?_) | refine a8 (dp r3 ?_) | fail); simp -implicitDefEqProofs [hg]) | refine hK _ ?_ | refine hK _ _ (by rfl) ?_ | fail)
    refine d7 (d6 ?_); simp -implicitDefEqProofs [g8, f9, g7, hg] <;> try rfl
  subst hg
  rw [if_neg (by simp)]
  refine f6 Tryz.func5 rfl rfl (Nat.le_of_ble_eq_true rfl) ?_
  repeat' (first | refine d4 ?_ | refine b8 ?_ | refine b7 ?_ | refine b9 ?_ | refine f5 rfl ?_ | refine d8 rfl ?_ | ((first | refine c5 (fun K hK => ?_) | refine d5 f8 (fun K hK => ?_) | refine a9 (cp h ?_) | refine a8 (dp h ?_) | refine a9 (cp r2 ?_) | refine a8 (dp r2 ?_) | refine a9 (cp r3 ?_) | refine a8 (dp r3 ?_) | fail); simp -implicitDefEqProofs) | refine hK _ ?_ | refine hK _ _ (by rfl) ?_ | fail)
  refine d7 (d6 ?_); simp -implicitDefEqProofs [g8, f9, g7] <;> try rfl
theorem red_ok (s : ByteArray) (hs : s.size ≤ 8000) (h : (c6t s).2.2.2 = 0) : ∃ x ml y sl, (c6t s).1 = .mk x ml ∧ (c6t s).2.1 = .mk y sl ∧ ml.length = sl.length ∧ ml.length ≤ 9000 ∧ (∀ (i : Nat) a d, ml[i]? = some a → sl[i]? = some d → FacOk a d) ∧ ∀ d ∈ sl, d.size ≤ 9000 := by
  have hz := b0b s hs
  have hsc := fun x l e => @b3z s x l e
  have hkd := fun x l e => @c2u s x l e
  unfold c6t at h ⊢
  by_cases c1 : (o7 s).2.2 = 0; rotate_left
  · rw [if_pos c1] at h; exact absurd h c1
  rw [if_neg (by simpa using c1)] at h ⊢
  by_cases c2 : (a2i (o7 s).1.lab (o7 s).1.kids).er = 0; rotate_left
  · rw [if_pos c2] at h; exact absurd h c2
  rw [if_neg (by simpa using c2)] at h ⊢
  by_cases c3 : (a8e (a2i (o7 s).1.lab (o7 s).1.kids).t).er = 0; rotate_left
  · rw [if_pos c3] at h; exact absurd h c3
  rw [if_neg (by simpa using c3)]
  obtain ⟨⟨mx, ml⟩, hr⟩ : ∃ r, (o7 s).1 = r := ⟨_, rfl⟩
  rw [hr] at hz c2 c3 ⊢
  have hsc := hsc mx ml hr
  have hkd := hkd mx ml hr
  rw [Tr.lab, Tr.kids] at *
  obtain ⟨y, sl, e1, e2, e3⟩ := fac_ok mx ml hsc hkd c2 c3
  have h1 := c4g mx ml hsc
  have h2 := b72 (a2i mx ml).t
  rw [e1] at h2
  have hlen := Tr.len_size (x := mx) (l := ml)
  refine ⟨mx, ml, y, sl, rfl, e1, e2, by omega, e3, fun d hd => ?_⟩
  obtain ⟨i, hi⟩ := List.mem_iff_getElem?.1 hd
  have := Tr.size_at (x := y) hi
  omega
theorem fac_kF {ml sl : List VT} (hok : ∀ (i : Nat) a d, ml[i]? = some a → sl[i]? = some d → FacOk a d) (hz : ∀ d ∈ sl, d.size ≤ 9000) (hl : ml.length = sl.length) : ∀ i, ∀ f ∈ a3k i ml sl, okF f := by
  induction ml generalizing sl with
  | nil => intro i f hf; cases sl <;> simp [a3k] at hf
  | cons a r ih =>
    intro i f hf
    cases sl with
    | nil => simp [a3k] at hf
    | cons d q =>
      rw [a3k] at hf
      rcases List.mem_append.1 hf with hf | hf
      · unfold b0n at hf
        split at hf
        · rename_i hp
          rw [List.mem_singleton] at hf
          subst hf
          obtain ⟨e1, e2, e3⟩ := hok 0 a d rfl rfl
          unfold a9g at hp
          rw [Bool.and_eq_true] at hp
          obtain ⟨p, pl, rr, b, hk, _, _⟩ := e3 (of_decide_eq_true hp.1)
          have hd := hz d (by simp)
          obtain ⟨dx, dl⟩ := d
          rw [Tr.kids] at hk
          subst hk
          have s0 := Tr.size_at (x := dx) (l := [.mk p pl, rr, b]) (i := 0) rfl
          have s1 := Tr.size_at (x := dx) (l := [.mk p pl, rr, b]) (i := 1) rfl
          have s2 := Tr.len_size (x := p) (l := pl)
          unfold ptyF
          simp only [Tr.kids, List.getD_cons_zero, List.getD_cons_succ]
          refine ⟨by dsimp only; rw [b1q]; omega, fun t ht => ?_, by dsimp only; omega⟩
          obtain ⟨z, hz', rfl⟩ := List.mem_map.1 ht
          obtain ⟨j, hj⟩ := List.mem_iff_getElem?.1 hz'
          have s3 := Tr.size_at (x := p) hj
          obtain ⟨zx, zl⟩ := z
          rw [Tr.kids]
          cases zl with
          | nil => simp [Tr.size_mk]
          | cons u ur =>
            have := Tr.size_at (x := zx) (l := u :: ur) (i := 0) rfl
            rw [List.getD_cons_zero]; omega
        · cases hf
      · exact ih (sl := q) (fun j a' d' h1 h2 => hok (j + 1) a' d' (by simpa using h1) (by simpa using h2)) (fun d' h' => hz d' (by simp [h'])) (by simpa using hl) (i + 1) f hf
theorem law_ftells_row (s : ByteArray) : Row Tryz.prog 3 [vS s] [] (vB true) [] := by
  have haw := b02
  by_cases h3 : 1500 < s.size
  · have h3' : (1500 : Int) < s.size := by omega
    refine f6 Tryz.func3 rfl rfl (Nat.le_of_ble_eq_true rfl) ?_
    repeat' (first | refine d4 ?_ | refine b8 ?_ | refine b7 ?_ | refine b9 ?_ | refine f5 rfl ?_ | refine d8 rfl ?_ | ((first | refine c5 (fun K hK => ?_) | refine d5 f8 (fun K hK => ?_) | refine a9 (cp haw ?_) | refine a8 (dp haw ?_) | fail); simp -implicitDefEqProofs [h3, h3']) | refine hK _ ?_ | refine hK _ _ (by rfl) ?_ | fail)
    refine d7 (d6 ?_); simp -implicitDefEqProofs [g8, f9, g7] <;> try rfl
  have h3' : ¬ (1500 : Int) < s.size := by omega
  have hr := b8z s (by omega)
  have hok := red_ok s (by omega)
  obtain ⟨⟨⟨ux, ul⟩, ⟨vx, vl⟩, a, e⟩, hq⟩ : ∃ r, c6t s = r := ⟨_, rfl⟩
  rw [hq] at hr hok
  dsimp only at hr hok
  clear hq
  by_cases he : e = 0; rotate_left
  · refine f6 Tryz.func3 rfl rfl (Nat.le_of_ble_eq_true rfl) ?_
    repeat' (first | refine d4 ?_ | refine b8 ?_ | refine b7 ?_ | refine b9 ?_ | refine f5 rfl ?_ | refine d8 rfl ?_ | ((first | refine c5 (fun K hK => ?_) | refine d5 f8 (fun K hK => ?_) | refine a9 (cp hr ?_) | refine a8 (dp hr ?_) | refine a9 (cp haw ?_) | refine a8 (dp haw ?_) | fail); simp -implicitDefEqProofs [h3, h3', he]) | refine hK _ ?_ | refine hK _ _ (by rfl) ?_ | fail)
    refine d7 (d6 ?_); simp -implicitDefEqProofs [g8, f9, g7] <;> try rfl
  subst he
  obtain ⟨x, ml, y, sl, q1, q2, e2, e4, e3, e5⟩ := hok rfl
  obtain ⟨rfl, rfl⟩ := (Tr.mk.injEq _ _ _ _).mp q1
  obtain ⟨rfl, rfl⟩ := (Tr.mk.injEq _ _ _ _).mp q2
  have r1 := c50 ux vx ul vl e2 (by omega) e3 (fun d hd => by have := e5 d hd; omega)
  have r2 := c2a ux vx ul vl e2 (by omega) e3 (fun d hd => by have := e5 d hd; omega)
  have hk := fac_kF e3 e5 e2 0
  have hlf := a69 ul vl 0
  obtain ⟨F, hF⟩ : ∃ F, a3k 0 ul vl = F := ⟨_, rfl⟩
  rw [hF] at r1 r2 hk hlf
  clear hF
  refine f6 Tryz.func3 rfl rfl (Nat.le_of_ble_eq_true rfl) ?_
  repeat' (first | refine d4 ?_ | refine b8 ?_ | refine b7 ?_ | refine b9 ?_ | refine f5 rfl ?_ | refine d8 rfl ?_ | ((first | refine c5 (fun K hK => ?_) | refine d5 f8 (fun K hK => ?_) | refine a9 (cp hr ?_) | refine a8 (dp hr ?_) | refine a9 (cp r1 ?_) | refine a8 (dp r1 ?_) | refine a9 (cp r2 ?_) | refine a8 (dp r2 ?_) | fail); simp -implicitDefEqProofs [h3, h3']) | refine hK _ ?_ | refine hK _ _ (by rfl) ?_ | fail)
  refine l7 (ι := Nat) (fun k => s7 [(7, vFs F), (8, vFs F), (9, vI (k : Nat))] []) (fun k => k ≤ F.length) (fun k => F.length - k) 0 (Nat.zero_le _) (f7 [] (by simp -implicitDefEqProofs) (by simp -implicitDefEqProofs) (by decide) rfl (by simp)) (fun Z hI k hk2 => ?_)
  by_cases hkl : k < F.length; rotate_left
  · repeat' (first | refine d4 ?_ | refine b8 ?_ | refine b7 ?_ | refine b9 ?_ | refine f5 rfl ?_ | refine d8 rfl ?_ | ((first | refine c5 (fun K hK => ?_) | refine d5 f8 (fun K hK => ?_) | refine a9 (cp haw ?_) | refine a8 (dp haw ?_) | fail); simp -implicitDefEqProofs [hkl]) | refine hK _ ?_ | refine hK _ _ (by rfl) ?_ | fail)
    refine d7 (d6 ?_); simp -implicitDefEqProofs [g8, f9, g7] <;> try rfl
  obtain ⟨⟨fn, fp, ⟨frx, frl⟩, fd⟩, hy⟩ : ∃ y, F[k]? = some y := ⟨_, List.getElem?_eq_getElem hkl⟩
  have hy' := (List.getElem?_eq_some_iff.1 hy).2
  have w2 : IntKind.i64.wrap ((k : Nat) + 1 : Int) = (k : Nat) + 1 := k9 _ (by omega) (by omega)
  have hsm := b5b ⟨fn, fp, .mk frx frl, fd⟩ (hk _ (List.mem_of_getElem? hy))
  repeat' (first | refine d4 ?_ | refine b8 ?_ | refine b7 ?_ | refine b9 ?_ | refine f5 rfl ?_ | refine d8 rfl ?_ | ((first | refine c5 (fun K hK => ?_) | refine d5 f8 (fun K hK => ?_) | refine a9 (cp hsm ?_) | refine a8 (dp hsm ?_) | fail); simp -implicitDefEqProofs [hkl, hy, hy', w2]) | refine hK _ ?_ | refine hK _ _ (by rfl) ?_ | fail)
  refine ⟨k + 1, by omega, (by dsimp only; omega), ?_⟩; rw [hI]; exact f7 [] (by simp -implicitDefEqProofs) (by simp -implicitDefEqProofs) (by decide) rfl (by simp)
end Go.Proofs.YthkfdheoakbfnaaGreat.am
end
section
namespace Go.Proofs.YthkfdheoakbfnaaGreat.am
open Go.ChangeShapes Go.WideShapes Go.ChangeAt Go.RowKit
open vt
set_option linter.unusedVariables false
set_option linter.unusedSimpArgs false
set_option maxRecDepth 100000
end Go.Proofs.YthkfdheoakbfnaaGreat.am
end
section
namespace Go.Proofs.YthkfdheoakbfnaaGreat.am
open Go.ChangeShapes Go.WideShapes Go.ChangeAt Go.RowKit
open vt
set_option linter.unusedVariables false
set_option maxRecDepth 100000 in
theorem open_vstring {H : Type} {enc : TypeId × Value → H} {w : World} {r : Reach} {b0 : Nat} {v : Value} {d : DataW H} {p : List MemPlace}
    (hv : Value.okWide Tryz.prog w r b0 9 v) (h : DataW.Trod enc Tryz.prog w 0 (fun _ => true) true 9 v d p) : ∃ s : ByteArray, j7 (fun _ => .un) (oldS w) w v (vS s) ∧ s.size ≤ 9223372036854775807 := by
  obtain ⟨s, rfl, _, _, h1⟩ := Go.ChangeMaps.open_string Tryz.underlying9 hv h
  exact ⟨s, .lit _ rfl, by unfold maxLen at h1; omega⟩
end Go.Proofs.YthkfdheoakbfnaaGreat.am
end
