import Derived.Test.YthmdllhhmhbhbaaGreatDoorPkR12
import Derived.Test.YthmdllhhmhbhbaaGreatDoorPkR10
set_option maxRecDepth 100000
set_option maxHeartbeats 4000000
section
namespace Go.Proofs.YthmdllhhmhbhbaaGreatDoor.am
open Go.ChangeShapes Go.WideShapes Go.ChangeAt Go.RowKit
open vt
set_option linter.unusedVariables false
set_option linter.unusedSimpArgs false
theorem c4c (m y : VT) (l : List VT) (j : JS) : a0v (a1w m) 11 (l ++ [y]) j = ⟨(a0v (a1w m) 11 l j).lo, if a1j m y = 0 ∧ (a0v (a1w m) 11 l j).er = 0 then y.lab.f else (a0v (a1w m) 11 l j).at', if a1j m y = 0 ∧ (a0v (a1w m) 11 l j).er = 0 then 11 else (a0v (a1w m) 11 l j).er⟩ := by
  rw [a4w, ← b2a]
  unfold a8l a1w
  by_cases h : a1j m y = 0 <;> simp [h]
theorem a5v {α : Type} {l : List α} {k : Nat} {y : α} (h : l[k]? = some y) : l.take (k + 1) = l.take k ++ [y] := by rw [List.take_add_one, h]; rfl
theorem c4u (m ret : VT) (hm : p6 m) (hms : m.size ≤ 100000) (x : Lab) (l : List VT) (ht : p6 (.mk x l)) (hls : (Tr.mk x l).size ≤ 100000) (j : JS) (E : List VT) (hs : fnB x l = true) : ∃ ret' E', OkV j.lo E → StF m ret (.mk x l) j E (fnJ m x l j) ret' E' := by
  have hkin := ((Tr.all_mk _ x l).1 ht).2
  unfold fnJ
  rw [if_neg (by rw [hs]; simp)]
  unfold fnB at hs
  simp only [Bool.and_eq_true, Bool.or_eq_true, decide_eq_true_eq] at hs
  obtain ⟨⟨⟨⟨⟨hn, h3⟩, h35⟩, hP⟩, hT⟩, h29⟩ := hs
  obtain ⟨⟨px, pl⟩, r, b, rfl⟩ := t7 h3
  simp only [List.getD_cons_zero, List.getD_cons_succ] at h35 hP hT h29 ⊢
  replace h35 : px.k = 35 := h35
  replace hP : c1f pl = true := hP
  have ip := hkin (.mk px pl) (by simp)
  have ir := hkin r (by simp)
  have ib := hkin b (by simp)
  have s0 := Tr.size_at (x := x) (l := [Tr.mk px pl, r, b]) (i := 0) rfl
  have s1 := Tr.size_at (x := x) (l := [Tr.mk px pl, r, b]) (i := 1) rfl
  have s2 := Tr.size_at (x := x) (l := [Tr.mk px pl, r, b]) (i := 2) rfl
  have s3 := Tr.len_size (x := px) (l := pl)
  have hF : ∃ at' er', fnS m x [.mk px pl, r, b] j = ⟨a8z pl, at', er'⟩ ∧ a0v (b5s m x.n) 12 ((pl.map fun q => q.kids.getD 0 z0T) ++ [r]) (a0v (a1w m) 11 ((pl.map fun q => q.kids.getD 0 z0T) ++ [r]) j) = ⟨j.lo, at', er'⟩ := by
    refine ⟨_, _, rfl, ?_⟩
    have hz : ∀ Z : JS, Z.lo = j.lo → Z = ⟨j.lo, Z.at', Z.er⟩ := fun Z h => by
      obtain ⟨z1, z2, z3⟩ := Z
      dsimp only at h ⊢
      rw [h]
    exact hz _ (by rw [a7r, a7r])
  obtain ⟨at', er', hF1, hF2⟩ := hF
  rw [hF1]
  obtain ⟨E', hE'⟩ := c5o m r b ib ⟨a8z pl, at', er'⟩ (a8z pl)
  refine ⟨r, E', fun hE => ?_⟩
  have hTm : ∀ (k : Nat) y, ((pl.map fun q => q.kids.getD 0 z0T) ++ [r])[k]? = some y → p6 y ∧ y.size ≤ 100000 := by
    intro k y hy
    have := List.mem_of_getElem? hy
    rcases List.mem_append.1 this with h | h
    · obtain ⟨q, hq, rfl⟩ := List.mem_map.1 h
      obtain ⟨i, hi⟩ := List.mem_iff_getElem?.1 hq
      obtain ⟨qx, ql⟩ := q
      obtain ⟨u, rfl⟩ := b76 hP hi
      have e1 := Tr.size_at (x := px) hi
      have e2 := Tr.size_at (x := qx) (l := [u]) (i := 0) rfl
      exact ⟨((Tr.all_mk _ _ _).1 (((Tr.all_mk _ _ _).1 ip).2 _ hq)).2 u (by simp), by show u.size ≤ _; omega⟩
    · rw [List.mem_singleton.1 h]; exact ⟨ir, by omega⟩
  have hcm : Cm m (a8z pl) r 200000 b.size := ⟨⟨hm, by omega⟩, fun t ht => by
    unfold a8z at ht
    obtain ⟨y, hy, rfl⟩ := List.mem_map.1 ht
    obtain ⟨i, hi⟩ := List.mem_iff_getElem?.1 hy
    have hil := (List.getElem?_eq_some_iff.1 hi).1
    obtain ⟨q1, q2⟩ := hTm i y (by rw [List.getElem?_append_left hil]; exact hi)
    exact x4.bare ⟨q1, by omega⟩, by unfold a8z; rw [List.length_map, List.length_map]; omega, by omega, ⟨ir, by omega⟩⟩
  obtain ⟨ok, hst⟩ := hE' 200000 (a13 _) hcm
  dsimp only at hst
  clear hE' hcm hF1
  obtain ⟨⟨⟨bx', bl'⟩, ⟨L3, a3, e3⟩⟩, hS⟩ : ∃ s, j7 m r b ⟨a8z pl, at', er'⟩ = s := ⟨_, rfl⟩
  rw [hS] at hst ok ⊢
  dsimp only at hst ok ⊢
  clear hS
  refine ⟨ok, ?_⟩
  have hpa := a3s pl (by omega)
  rw [show pl.all r9 = true from hP] at hpa
  have hpar := b4u m r at' er' x px pl [r, b] hP (by omega)
  have hn1 := a0k (.mk px pl) (by omega)
  have hn2 := a0k r (by omega)
  obtain ⟨⟨nx1, nl1⟩, hN1⟩ : ∃ s, i7 (.mk px pl) = s := ⟨_, rfl⟩
  rw [hN1] at hn1 ⊢
  obtain ⟨⟨nx2, nl2⟩, hN2⟩ : ∃ s, i7 r = s := ⟨_, rfl⟩
  rw [hN2] at hn2 ⊢
  have hce : ∀ (k : Nat) y, ((pl.map fun q => q.kids.getD 0 z0T) ++ [r])[k]? = some y → Row Tryz.prog 34 [vT m, vT y] [] (vI (a1j m y)) [] := fun k y hy => a1y m y hm (by omega) (hTm k y hy).1 (by have := (hTm k y hy).2; omega)
  have hpn : ∀ (k : Nat) y, ((pl.map fun q => q.kids.getD 0 z0T) ++ [r])[k]? = some y → Row Tryz.prog 54 [vT m, vT y] [] (vB (decide (0 < a1j m y) && a6t y)) [] := fun k y hy => b4v m y hm (by omega) (hTm k y hy).1 (by have := (hTm k y hy).2; omega)
  obtain ⟨T, hTe⟩ : ∃ T, (pl.map fun q => q.kids.getD 0 z0T) = T := ⟨_, rfl⟩
  have hTl : T.length = pl.length := by rw [← hTe]; exact List.length_map _
  have hTk : ∀ (k : Nat) qx u, pl[k]? = some (.mk qx [u]) → T.take (k + 1) = T.take k ++ [u] := fun k qx u h => by
    rw [← hTe, ← List.map_take, ← List.map_take, a9x h]; rfl
  rw [hTe] at hF2 hce hpn
  obtain ⟨A, hA⟩ : ∃ A, T ++ [r] = A := ⟨_, rfl⟩
  rw [hA] at hF2 hce hpn
  have hAl : A.length = T.length + 1 := by rw [← hA]; simp
  obtain ⟨L, a, e⟩ := j
  dsimp only at hE ⊢
  have hlo1 : ∀ k, (a0v (a1w m) 11 (A.take k) ⟨L, a, e⟩).lo = L := fun k => a7r _ _ _ _
  have t0 : T.take 0 = [] := rfl
  have hE2 := hE.2
  have hty : Row Tryz.prog 53 [vT r] [] (vB true) [] := by
    obtain ⟨qx, ql⟩ := r
    have := a9v qx ql
    rw [show (decide (1 ≤ qx.k) && decide (qx.k ≤ 4)) = true from hT] at this
    exact this
  clear hT hTm ok
  obtain ⟨rx, rl⟩ := r
  obtain ⟨bx, bl⟩ := b
  replace h29 : bx.k = 29 := h29
  obtain ⟨ox, ol⟩ := ret
  obtain ⟨mx, ml⟩ := m
  refine e8 Tryz.func37 rfl rfl (Nat.le_of_ble_eq_true rfl) ?_
  refine l9 1 0 12 _ 24 6 L.length (E.map tc) rfl rfl (.inr rfl) (show (1 : Nat) < 2 by decide) (show (0 : Nat) < 2 by decide) ?_
  simp [St.mvw]
  refine d7 ?_
  refine d6 (fun K hK => ?_); simp -implicitDefEqProofs; refine hK _ ?_
  refine a7o (ι := Unit) (fun _ => a0w [(0, .v (.c (.ptr 0 0))), (3, .v (.c (.ptr 3 0))), (4, .v (.c (.ptr 4 0)))] [some (bxJ 2 (.mk mx ml) (.mk ox ol) L.length a e), none, some (arJ E), some (.box (ta (.mk x [.mk px pl, .mk rx rl, .mk bx bl]))), some zTb]) (fun _ => True) (fun Z hI => ?_) (fun _ _ => ?_)
  · rcases hn with hn | hn
    · repeat' (first | refine d7 ?_ | refine b9 ?_ | refine a8 ?_ | refine b8 ?_ | refine f7 rfl ?_ | refine f6 rfl ?_ | ((first | refine d6 (fun K hK => ?_) | refine d8 f8 (fun K hK => ?_) | refine b7 (cp hpa ?_) | refine a6 (dp hpa ?_) | refine b7 (cp hty ?_) | refine a6 (dp hty ?_) | fail); simp -implicitDefEqProofs [hn, h35, h29]) | refine hK _ ?_ | refine hK _ _ (by rfl) ?_ | fail)
      refine ⟨(), (by trivial), ?_⟩; rw [hI]; exact i6 [0, 1, 2, 3, 4] (by simp -implicitDefEqProofs [hn, h35, h29]) (by simp -implicitDefEqProofs [hn, h35, h29]) (by decide) rfl (by simp)
    · repeat' (first | refine d7 ?_ | refine b9 ?_ | refine a8 ?_ | refine b8 ?_ | refine f7 rfl ?_ | refine f6 rfl ?_ | ((first | refine d6 (fun K hK => ?_) | refine d8 f8 (fun K hK => ?_) | refine b7 (cp hpa ?_) | refine a6 (dp hpa ?_) | refine b7 (cp hty ?_) | refine a6 (dp hty ?_) | fail); simp -implicitDefEqProofs [hn, h35, h29]) | refine hK _ ?_ | refine hK _ _ (by rfl) ?_ | fail)
      refine ⟨(), (by trivial), ?_⟩; rw [hI]; exact i6 [0, 1, 2, 3, 4] (by simp -implicitDefEqProofs [hn, h35, h29]) (by simp -implicitDefEqProofs [hn, h35, h29]) (by decide) rfl (by simp)
  refine d7 ?_
  refine d6 (fun K hK => ?_); simp -implicitDefEqProofs; refine hK _ ?_
  refine a9f 5 24 6 (by simp) ?_
  unfold St.nil
  repeat (first | refine d7 ?_ | refine b9 ?_ | refine a8 ?_ | refine b8 ?_ | refine f7 rfl ?_ | refine f6 rfl ?_ | ((first | refine d6 (fun K hK => ?_) | refine d8 f8 (fun K hK => ?_) | fail); simp -implicitDefEqProofs; first | refine hK _ ?_ | refine hK _ _ (by rfl) ?_ | fail) | fail)
  refine v7 (ι := Nat) (fun k => a0w [(0, .v (.c (.ptr 0 0))), (3, .v (.c (.ptr 3 0))), (4, .v (.c (.ptr 4 0))), (5, .v (.c (.row 5 6 ((T.take k).map tc)))), (68, vLs pl), (69, vI (pl.length : Nat)), (70, vI (k : Nat))] [some (bxJ 2 (.mk mx ml) (.mk ox ol) L.length a e), none, some (arJ E), some (.box (ta (.mk x [.mk px pl, .mk rx rl, .mk bx bl]))), some zTb, some (.row 24 6)]) (fun k => k ≤ pl.length) (fun k => pl.length - k) 0 (Nat.zero_le _) (by rw [t0]; exact a2f [3, 4, 6] rfl (by simp -implicitDefEqProofs) (by simp -implicitDefEqProofs) (by first | decide | (simp; done)) rfl (by simp)) (fun Z hI k hk => ?_)
  by_cases hkl : k < pl.length
  · obtain ⟨⟨qx, ql⟩, hy⟩ : ∃ y, pl[k]? = some y := ⟨_, List.getElem?_eq_getElem hkl⟩
    have hy' := (List.getElem?_eq_some_iff.1 hy).2
    obtain ⟨⟨ux, ul⟩, rfl⟩ := b76 hP hy
    have w2 : IntKind.i64.wrap ((k : Nat) + 1 : Int) = (k : Nat) + 1 := v6 _ (by omega) (by omega)
    have hs := hTk k _ _ hy
    obtain ⟨G, hG⟩ : ∃ G, T.take k = G := ⟨_, rfl⟩
    have hGl : G.length = k := by rw [← hG, List.length_take]; omega
    rw [hG] at hs ⊢
    have b1 : (k + 1) * 72 ≤ 140737488355328 := by omega
    have b2 : k + 1 ≤ 140737488355328 := by omega
    repeat (first | refine d7 ?_ | refine b9 ?_ | refine a8 ?_ | refine b8 ?_ | refine f7 rfl ?_ | refine f6 rfl ?_ | ((first | refine d6 (fun K hK => ?_) | refine d8 f8 (fun K hK => ?_) | fail); simp -implicitDefEqProofs [hkl, hy, hy', w2, hGl, b1, b2]; first | refine hK _ ?_ | refine hK _ _ (by rfl) ?_ | fail) | fail)
    refine ⟨k + 1, by omega, (by dsimp only; omega), ?_⟩
    rw [hI, hs]; exact a2f [3, 4, 17] rfl (by simp -implicitDefEqProofs) (by simp -implicitDefEqProofs) (by first | decide | (simp; done)) rfl (by simp)
  have : k = pl.length := by omega
  subst this
  rw [List.take_of_length_le (show T.length ≤ pl.length by omega)]
  have b3 : (T.length + 1) * 72 ≤ 140737488355328 := by omega
  have b4 : T.length + 1 ≤ 140737488355328 := by omega
  have hAm : T.map tc ++ [[I rx.k, I rx.n, Sx rx.s, .sl 6 (rl.map tc), I rx.f, I rx.t]] = A.map tc := by rw [← hA]; simp
  repeat (first | refine d7 ?_ | refine b9 ?_ | refine a8 ?_ | refine b8 ?_ | refine f7 rfl ?_ | refine f6 rfl ?_ | ((first | refine d6 (fun K hK => ?_) | refine d8 f8 (fun K hK => ?_) | fail); simp -implicitDefEqProofs [b3, b4, hAm]; first | refine hK _ ?_ | refine hK _ _ (by rfl) ?_ | fail) | fail)
  have q0 : a0v (a1w (.mk mx ml)) 11 (A.take 0) ⟨L, a, e⟩ = ⟨L, a, e⟩ := rfl
  refine v7 (ι := Nat) (fun k => a0w [(0, .v (.c (.ptr 0 0))), (3, .v (.c (.ptr 3 0))), (4, .v (.c (.ptr 4 0))), (5, vLs A), (89, vLs A), (90, vI (A.length : Nat)), (91, vI (k : Nat))] [some (bxJ 2 (.mk mx ml) (.mk ox ol) L.length (a0v (a1w (.mk mx ml)) 11 (A.take k) ⟨L, a, e⟩).at' (a0v (a1w (.mk mx ml)) 11 (A.take k) ⟨L, a, e⟩).er), none, some (arJ E), some (.box (ta (.mk x [.mk px pl, .mk rx rl, .mk bx bl]))), some zTb]) (fun k => k ≤ A.length) (fun k => A.length - k) 0 (Nat.zero_le _) (by rw [q0]; exact a2f [3, 4] rfl (by simp -implicitDefEqProofs [hAl]) (by simp -implicitDefEqProofs [hAl]) (by first | decide | (simp; done)) rfl (by simp)) (fun Z hI k hk => ?_)
  by_cases hkl : k < A.length
  · obtain ⟨⟨yx, yl⟩, hy⟩ : ∃ y, A[k]? = some y := ⟨_, List.getElem?_eq_getElem hkl⟩
    have hy' := (List.getElem?_eq_some_iff.1 hy).2
    have w2 : IntKind.i64.wrap ((k : Nat) + 1 : Int) = (k : Nat) + 1 := v6 _ (by omega) (by omega)
    have hs := c4c (.mk mx ml) (.mk yx yl) (A.take k) ⟨L, a, e⟩
    rw [← a5v hy, hlo1] at hs
    have hcy := hce k _ hy
    obtain ⟨c, hc⟩ : ∃ c, a1j (.mk mx ml) (.mk yx yl) = c := ⟨_, rfl⟩
    rw [hc] at hs hcy
    obtain ⟨a1, ha1⟩ : ∃ z, (a0v (a1w (.mk mx ml)) 11 (A.take k) ⟨L, a, e⟩).at' = z := ⟨_, rfl⟩
    obtain ⟨e1, he1⟩ : ∃ z, (a0v (a1w (.mk mx ml)) 11 (A.take k) ⟨L, a, e⟩).er = z := ⟨_, rfl⟩
    rw [ha1, he1] at hs ⊢
    have hsd := a3t (.mk mx ml) (.mk ox ol) L.length E a1 e1 yx yl c hcy
    rw [Tr.lab] at hs
    generalize (if c = 0 ∧ e1 = 0 then yx.f else a1) = a2 at hs hsd
    generalize (if c = 0 ∧ e1 = 0 then (11 : Int) else e1) = e2 at hs hsd
    repeat' (first | refine d7 ?_ | refine b9 ?_ | refine a8 ?_ | refine b8 ?_ | refine f7 rfl ?_ | refine f6 rfl ?_ | ((first | refine d6 (fun K hK => ?_) | refine d8 f8 (fun K hK => ?_) | refine b7 (cgJ hsd 0 rfl ?_) | refine a6 (dgJ hsd 0 rfl ?_) | fail); simp -implicitDefEqProofs [hkl, hy, hy', w2]) | refine hK _ ?_ | refine hK _ _ (by rfl) ?_ | fail)
    refine ⟨k + 1, by omega, (by dsimp only; omega), ?_⟩
    rw [hI, hs]; exact a2f [3, 4] rfl (by simp -implicitDefEqProofs) (by simp -implicitDefEqProofs) (by first | decide | (simp; done)) rfl (by simp)
  have : k = A.length := by omega
  subst this
  rw [List.take_length]
  repeat (first | refine d7 ?_ | refine b9 ?_ | refine a8 ?_ | refine b8 ?_ | refine f7 rfl ?_ | refine f6 rfl ?_ | ((first | refine d6 (fun K hK => ?_) | refine d8 f8 (fun K hK => ?_) | fail); simp -implicitDefEqProofs; first | refine hK _ ?_ | refine hK _ _ (by rfl) ?_ | fail) | fail)
  have q1 : a0v (b5s (.mk mx ml) x.n) 12 (A.take 0) (a0v (a1w (.mk mx ml)) 11 A ⟨L, a, e⟩) = a0v (a1w (.mk mx ml)) 11 A ⟨L, a, e⟩ := rfl
  refine v7 (ι := Nat) (fun k => a0w [(0, .v (.c (.ptr 0 0))), (3, .v (.c (.ptr 3 0))), (4, .v (.c (.ptr 4 0))), (5, vLs A), (99, vLs A), (100, vI (A.length : Nat)), (101, vI (k : Nat))] [some (bxJ 2 (.mk mx ml) (.mk ox ol) L.length (a0v (b5s (.mk mx ml) x.n) 12 (A.take k) (a0v (a1w (.mk mx ml)) 11 A ⟨L, a, e⟩)).at' (a0v (b5s (.mk mx ml) x.n) 12 (A.take k) (a0v (a1w (.mk mx ml)) 11 A ⟨L, a, e⟩)).er), none, some (arJ E), some (.box (ta (.mk x [.mk px pl, .mk rx rl, .mk bx bl]))), some zTb]) (fun k => k ≤ A.length) (fun k => A.length - k) 0 (Nat.zero_le _) (by rw [q1]; exact a2f [3, 4] rfl (by simp -implicitDefEqProofs) (by simp -implicitDefEqProofs) (by first | decide | (simp; done)) rfl (by simp)) (fun Z2 hI2 k hk2 => ?_)
  by_cases hkl2 : k < A.length
  · obtain ⟨⟨yx, yl⟩, hy⟩ : ∃ y, A[k]? = some y := ⟨_, List.getElem?_eq_getElem hkl2⟩
    have hy' := (List.getElem?_eq_some_iff.1 hy).2
    have w2 : IntKind.i64.wrap ((k : Nat) + 1 : Int) = (k : Nat) + 1 := v6 _ (by omega) (by omega)
    have hs := a4w (b5s (.mk mx ml) x.n) 12 (.mk yx yl) (A.take k) (a0v (a1w (.mk mx ml)) 11 A ⟨L, a, e⟩)
    rw [← a5v hy] at hs
    have hpy := hpn k _ hy
    have hbp : b5s (.mk mx ml) x.n (.mk yx yl) = (decide (x.n = 1) && !(decide (0 < a1j (.mk mx ml) (.mk yx yl)) && a6t (.mk yx yl))) := rfl
    obtain ⟨c, hc⟩ : ∃ c, (decide (0 < a1j (.mk mx ml) (.mk yx yl)) && a6t (.mk yx yl)) = c := ⟨_, rfl⟩
    rw [hc] at hpy hbp
    rw [hbp, a0h] at hs
    obtain ⟨⟨L1, a1, e1⟩, hW⟩ : ∃ z, a0v (b5s (.mk mx ml) x.n) 12 (A.take k) (a0v (a1w (.mk mx ml)) 11 A ⟨L, a, e⟩) = z := ⟨_, rfl⟩
    rw [hW] at hs ⊢
    dsimp only at hs ⊢
    rw [Tr.lab] at hs
    by_cases hx : x.n = 1
    · cases c with
      | true =>
        replace hs := hs.trans (if_neg (by simp))
        repeat' (first | refine d7 ?_ | refine b9 ?_ | refine a8 ?_ | refine b8 ?_ | refine f7 rfl ?_ | refine f6 rfl ?_ | ((first | refine d6 (fun K hK => ?_) | refine d8 f8 (fun K hK => ?_) | refine b7 (cp hpy ?_) | refine a6 (dp hpy ?_) | fail); simp -implicitDefEqProofs [hkl2, hy, hy', w2, hx]) | refine hK _ ?_ | refine hK _ _ (by rfl) ?_ | fail)
        refine ⟨k + 1, by omega, (by dsimp only; omega), ?_⟩
        rw [hI2, hs]; exact a2f [3, 4] rfl (by simp -implicitDefEqProofs [hx]) (by simp -implicitDefEqProofs [hx]) (by first | decide | (simp; done)) rfl (by simp)
      | false =>
        replace hs := hs.trans (if_pos (by simp [hx]))
        have hff := n4 (.mk mx ml) (.mk ox ol) L.length E a1 e1 yx yl 12
        generalize (if e1 = 0 then yx.f else a1) = a2 at hs hff
        generalize (if e1 = 0 then (12 : Int) else e1) = e2 at hs hff
        repeat' (first | refine d7 ?_ | refine b9 ?_ | refine a8 ?_ | refine b8 ?_ | refine f7 rfl ?_ | refine f6 rfl ?_ | ((first | refine d6 (fun K hK => ?_) | refine d8 f8 (fun K hK => ?_) | refine b7 (cp hpy ?_) | refine a6 (dp hpy ?_) | refine b7 (cgJ hff 0 rfl ?_) | refine a6 (dgJ hff 0 rfl ?_) | fail); simp -implicitDefEqProofs [hkl2, hy, hy', w2, hx]) | refine hK _ ?_ | refine hK _ _ (by rfl) ?_ | fail)
        refine ⟨k + 1, by omega, (by dsimp only; omega), ?_⟩
        rw [hI2, hs]; exact a2f [3, 4] rfl (by simp -implicitDefEqProofs [hx]) (by simp -implicitDefEqProofs [hx]) (by first | decide | (simp; done)) rfl (by simp)
    · replace hs := hs.trans (if_neg (by simp [hx]))
      repeat' (first | refine d7 ?_ | refine b9 ?_ | refine a8 ?_ | refine b8 ?_ | refine f7 rfl ?_ | refine f6 rfl ?_ | ((first | refine d6 (fun K hK => ?_) | refine d8 f8 (fun K hK => ?_) | fail); simp -implicitDefEqProofs [hkl2, hy, hy', w2, hx]) | refine hK _ ?_ | refine hK _ _ (by rfl) ?_ | fail)
      refine ⟨k + 1, by omega, (by dsimp only; omega), ?_⟩
      rw [hI2, hs]; exact a2f [3, 4] rfl (by simp -implicitDefEqProofs) (by simp -implicitDefEqProofs) (by first | decide | (simp; done)) rfl (by simp)
  have : k = A.length := by omega
  subst this
  rw [List.take_length, hF2]
  dsimp only
  repeat (first | refine d7 ?_ | refine b9 ?_ | refine a8 ?_ | refine b8 ?_ | refine f7 rfl ?_ | refine f6 rfl ?_ | ((first | refine d6 (fun K hK => ?_) | refine d8 f8 (fun K hK => ?_) | fail); simp -implicitDefEqProofs; first | refine hK _ ?_ | refine hK _ _ (by rfl) ?_ | fail) | fail)
  refine a2u 0 12 _ 24 6 rfl rfl (by dsimp only; omega) ?_
  simp [St.nilca]
  refine l9 18 0 12 _ 24 6 0 [] rfl rfl (.inl rfl) (by dsimp only; omega) (by dsimp only; omega) ?_
  simp [St.mvw]
  clear hce hpn hF2 hTk hn h35 h29 hpa hty
  repeat' (first | refine d7 ?_ | refine b9 ?_ | refine a8 ?_ | refine b8 ?_ | refine f7 rfl ?_ | refine f6 rfl ?_ | ((first | refine d6 (fun K hK => ?_) | refine d8 f8 (fun K hK => ?_) | refine b7 (cgJ hpar 0 rfl ?_) | refine a6 (dgJ hpar 0 rfl ?_) | refine b7 (cgJ hst 0 rfl ?_) | refine a6 (dgJ hst 0 rfl ?_) | refine b7 (cp hn1 ?_) | refine a6 (dp hn1 ?_) | refine b7 (cp hn2 ?_) | refine a6 (dp hn2 ?_) | fail); simp -implicitDefEqProofs) | refine hK _ ?_ | refine hK _ _ (by rfl) ?_ | fail)
  refine e7 (m7 [] rfl ?_); simp -implicitDefEqProofs [l4, g7, g9] <;> try rfl
def StD (m ret : VT) (i : Nat) (t : VT) (j : JS) (E : List VT) (r : VT × JS) (ret' : VT) (E' : List VT) : Prop := OkV r.2.lo E' ∧ Row Tryz.prog 19 [.v (.c (.ptr 0 0)), vT t, vI (i : Nat)] [bxJ 1 m ret j.lo.length j.at' j.er, arJ E] (vT r.1) [some (bxJ 2 m ret' r.2.lo.length r.2.at' r.2.er), none, some (arJ E')]
theorem jde_30 (m ret : VT) (hm : p6 m) (hms : m.size ≤ 100000) (i : Nat) (hi : i ≤ 100000) (x : Lab) (l : List VT) (ht : p6 (.mk x l)) (hts : (Tr.mk x l).size ≤ 100000) (hk : x.k = 30) (j : JS) (E : List VT) (hE : OkV j.lo E) : StD m ret i (.mk x l) j E (i7 (.mk x l), if b8m (.mk x l) = false then p7 x 12 j else if a1j m (.mk ⟨4, i, ⟨#[]⟩, 0, 0⟩ []) = 0 then p7 x 11 j else j) ret E := by
  have hE2 := hE.2
  have hlen := Tr.len_size (x := x) (l := l)
  have hnm := a0k (.mk x l) (by omega)
  obtain ⟨⟨nx, nl⟩, hN⟩ : ∃ s, i7 (.mk x l) = s := ⟨_, rfl⟩
  rw [hN] at hnm ⊢
  clear hN
  obtain ⟨L, a, e⟩ := j
  dsimp only at hE hE2 ⊢
  have hpa := a3s l (by omega)
  have hcel := a1y m (.mk ⟨4, i, ⟨#[]⟩, 0, 0⟩ []) hm (by omega) ((Tr.all_mk _ _ _).2 ⟨by simp [Lab.ok]; omega, fun y hy => by cases hy⟩) (by simp [Tr.size_mk])
  by_cases h0 : l = []
  · subst h0
    rw [if_pos (by simp [b8m, Tr.kids])]
    have hf := n4 m ret L.length E a e x [] 12
    rw [a0h]
    dsimp only
    refine ⟨hE, ?_⟩
    dsimp only
    generalize (if e = 0 then x.f else a) = a' at hf ⊢
    generalize (if e = 0 then (12 : Int) else e) = e' at hf ⊢
    clear hpa hcel
    obtain ⟨mx, ml⟩ := m
    obtain ⟨rx, rl⟩ := ret
    refine e8 Tryz.func19 rfl rfl (Nat.le_of_ble_eq_true rfl) ?_
    refine l9 1 0 12 _ 24 6 L.length (E.map tc) rfl rfl (.inr rfl) (show (1 : Nat) < 2 by decide) (show (0 : Nat) < 2 by decide) ?_
    simp [St.mvw]
    repeat' (first | refine d7 ?_ | refine b9 ?_ | refine a8 ?_ | refine b8 ?_ | refine f7 rfl ?_ | refine f6 rfl ?_ | ((first | refine d6 (fun K hK => ?_) | refine d8 f8 (fun K hK => ?_) | refine b7 (cgJ hf 0 rfl ?_) | refine a6 (dgJ hf 0 rfl ?_) | refine b7 (cp hnm ?_) | refine a6 (dp hnm ?_) | fail); simp -implicitDefEqProofs [hk]) | refine hK _ ?_ | refine hK _ _ (by rfl) ?_ | fail)
    refine e7 (m7 [] rfl ?_); simp -implicitDefEqProofs [l4, g7, g9] <;> try rfl
  have h0' : ¬ l.length = 0 := fun h => h0 (List.eq_nil_of_length_eq_zero h)
  have h0i : ¬ (l.length : Int) = 0 := by omega
  cases hP : l.all r9 with
  | false =>
    rw [hP] at hpa
    rw [if_pos (by unfold b8m; rw [Tr.kids, hP, Bool.and_false])]
    have hf := n4 m ret L.length E a e x l 12
    rw [a0h]
    dsimp only
    refine ⟨hE, ?_⟩
    dsimp only
    generalize (if e = 0 then x.f else a) = a' at hf ⊢
    generalize (if e = 0 then (12 : Int) else e) = e' at hf ⊢
    clear hcel
    obtain ⟨mx, ml⟩ := m
    obtain ⟨rx, rl⟩ := ret
    refine e8 Tryz.func19 rfl rfl (Nat.le_of_ble_eq_true rfl) ?_
    refine l9 1 0 12 _ 24 6 L.length (E.map tc) rfl rfl (.inr rfl) (show (1 : Nat) < 2 by decide) (show (0 : Nat) < 2 by decide) ?_
    simp [St.mvw]
    repeat' (first | refine d7 ?_ | refine b9 ?_ | refine a8 ?_ | refine b8 ?_ | refine f7 rfl ?_ | refine f6 rfl ?_ | ((first | refine d6 (fun K hK => ?_) | refine d8 f8 (fun K hK => ?_) | refine b7 (cp hpa ?_) | refine a6 (dp hpa ?_) | refine b7 (cgJ hf 0 rfl ?_) | refine a6 (dgJ hf 0 rfl ?_) | refine b7 (cp hnm ?_) | refine a6 (dp hnm ?_) | fail); simp -implicitDefEqProofs [hk, h0', h0i]) | refine hK _ ?_ | refine hK _ _ (by rfl) ?_ | fail)
    refine e7 (m7 [] rfl ?_); simp -implicitDefEqProofs [l4, g7, g9] <;> try rfl
  | true =>
  rw [hP] at hpa
  rw [if_neg (by unfold b8m; rw [Tr.kids, hP]; simp [h0, hk, Tr.lab])]
  obtain ⟨c, hc⟩ : ∃ c, a1j m (.mk ⟨4, i, ⟨#[]⟩, 0, 0⟩ []) = c := ⟨_, rfl⟩
  rw [hc] at hcel ⊢
  clear hc
  by_cases c0 : c = 0
  · rw [if_pos c0]
    have hf := n4 m ret L.length E a e x l 11
    rw [a0h]
    dsimp only
    refine ⟨hE, ?_⟩
    dsimp only
    generalize (if e = 0 then x.f else a) = a' at hf ⊢
    generalize (if e = 0 then (11 : Int) else e) = e' at hf ⊢
    obtain ⟨mx, ml⟩ := m
    obtain ⟨rx, rl⟩ := ret
    refine e8 Tryz.func19 rfl rfl (Nat.le_of_ble_eq_true rfl) ?_
    refine l9 1 0 12 _ 24 6 L.length (E.map tc) rfl rfl (.inr rfl) (show (1 : Nat) < 2 by decide) (show (0 : Nat) < 2 by decide) ?_
    simp [St.mvw]
    repeat' (first | refine d7 ?_ | refine b9 ?_ | refine a8 ?_ | refine b8 ?_ | refine f7 rfl ?_ | refine f6 rfl ?_ | ((first | refine d6 (fun K hK => ?_) | refine d8 f8 (fun K hK => ?_) | refine b7 (cp hpa ?_) | refine a6 (dp hpa ?_) | refine b7 (cp hcel ?_) | refine a6 (dp hcel ?_) | refine b7 (cgJ hf 0 rfl ?_) | refine a6 (dgJ hf 0 rfl ?_) | refine b7 (cp hnm ?_) | refine a6 (dp hnm ?_) | fail); simp -implicitDefEqProofs [hk, h0', h0i, c0]) | refine hK _ ?_ | refine hK _ _ (by rfl) ?_ | fail)
    refine e7 (m7 [] rfl ?_); simp -implicitDefEqProofs [l4, g7, g9] <;> try rfl
  · rw [if_neg c0]
    refine ⟨hE, ?_⟩
    dsimp only
    obtain ⟨mx, ml⟩ := m
    obtain ⟨rx, rl⟩ := ret
    refine e8 Tryz.func19 rfl rfl (Nat.le_of_ble_eq_true rfl) ?_
    refine l9 1 0 12 _ 24 6 L.length (E.map tc) rfl rfl (.inr rfl) (show (1 : Nat) < 2 by decide) (show (0 : Nat) < 2 by decide) ?_
    simp [St.mvw]
    repeat' (first | refine d7 ?_ | refine b9 ?_ | refine a8 ?_ | refine b8 ?_ | refine f7 rfl ?_ | refine f6 rfl ?_ | ((first | refine d6 (fun K hK => ?_) | refine d8 f8 (fun K hK => ?_) | refine b7 (cp hpa ?_) | refine a6 (dp hpa ?_) | refine b7 (cp hcel ?_) | refine a6 (dp hcel ?_) | refine b7 (cp hnm ?_) | refine a6 (dp hnm ?_) | fail); simp -implicitDefEqProofs [hk, h0', h0i, c0]) | refine hK _ ?_ | refine hK _ _ (by rfl) ?_ | fail)
    refine e7 (m7 [] rfl ?_); simp -implicitDefEqProofs [l4, g7, g9] <;> try rfl
theorem jde_31 (m ret : VT) (hm : p6 m) (hms : m.size ≤ 100000) (i : Nat) (hi : i ≤ 100000) (x : Lab) (l : List VT) (ht : p6 (.mk x l)) (hts : (Tr.mk x l).size ≤ 100000) (hk : x.k = 31) (j : JS) (E : List VT) (hE : OkV j.lo E) : StD m ret i (.mk x l) j E (i7 (.mk x l), if ¬ l.length = 1 ∨ c07 (l.getD 0 z0T) = false then p7 x 12 j else j) ret E := by
  have hE2 := hE.2
  have hlen := Tr.len_size (x := x) (l := l)
  have hnm := a0k (.mk x l) (by omega)
  obtain ⟨⟨nx, nl⟩, hN⟩ : ∃ s, i7 (.mk x l) = s := ⟨_, rfl⟩
  rw [hN] at hnm ⊢
  clear hN
  obtain ⟨L, a, e⟩ := j
  dsimp only at hE hE2 ⊢
  by_cases h1 : l.length = 1; rotate_left
  · have h1' : ¬ (l.length : Int) = 1 := by omega
    rw [if_pos (.inl h1)]
    have hf := n4 m ret L.length E a e x l 12
    rw [a0h]
    dsimp only
    refine ⟨hE, ?_⟩
    dsimp only
    generalize (if e = 0 then x.f else a) = a' at hf ⊢
    generalize (if e = 0 then (12 : Int) else e) = e' at hf ⊢
    obtain ⟨mx, ml⟩ := m
    obtain ⟨rx, rl⟩ := ret
    refine e8 Tryz.func19 rfl rfl (Nat.le_of_ble_eq_true rfl) ?_
    refine l9 1 0 12 _ 24 6 L.length (E.map tc) rfl rfl (.inr rfl) (show (1 : Nat) < 2 by decide) (show (0 : Nat) < 2 by decide) ?_
    simp [St.mvw]
    repeat' (first | refine d7 ?_ | refine b9 ?_ | refine a8 ?_ | refine b8 ?_ | refine f7 rfl ?_ | refine f6 rfl ?_ | ((first | refine d6 (fun K hK => ?_) | refine d8 f8 (fun K hK => ?_) | refine b7 (cgJ hf 0 rfl ?_) | refine a6 (dgJ hf 0 rfl ?_) | refine b7 (cp hnm ?_) | refine a6 (dp hnm ?_) | fail); simp -implicitDefEqProofs [hk, h1, h1']) | refine hK _ ?_ | refine hK _ _ (by rfl) ?_ | fail)
    refine e7 (m7 [] rfl ?_); simp -implicitDefEqProofs [l4, g7, g9] <;> try rfl
  obtain ⟨⟨yx, yl⟩, rfl⟩ := s9 h1
  rw [List.getD_cons_zero]
  have hli := c0z yx yl
  have hll : (decide (yl.length = 0) && (decide (yx.k = 5) || (decide (yx.k = 6) && (decide (yx.n = 0) || decide (yx.n = 1))))) = c07 (.mk yx yl) := rfl
  rw [hll] at hli
  cases hB : c07 (.mk yx yl) with
  | false =>
    rw [hB] at hli
    rw [if_pos (.inr rfl)]
    have hf := n4 m ret L.length E a e x [.mk yx yl] 12
    rw [a0h]
    dsimp only
    refine ⟨hE, ?_⟩
    dsimp only
    generalize (if e = 0 then x.f else a) = a' at hf ⊢
    generalize (if e = 0 then (12 : Int) else e) = e' at hf ⊢
    obtain ⟨mx, ml⟩ := m
    obtain ⟨rx, rl⟩ := ret
    refine e8 Tryz.func19 rfl rfl (Nat.le_of_ble_eq_true rfl) ?_
    refine l9 1 0 12 _ 24 6 L.length (E.map tc) rfl rfl (.inr rfl) (show (1 : Nat) < 2 by decide) (show (0 : Nat) < 2 by decide) ?_
    simp [St.mvw]
    repeat' (first | refine d7 ?_ | refine b9 ?_ | refine a8 ?_ | refine b8 ?_ | refine f7 rfl ?_ | refine f6 rfl ?_ | ((first | refine d6 (fun K hK => ?_) | refine d8 f8 (fun K hK => ?_) | refine b7 (cp hli ?_) | refine a6 (dp hli ?_) | refine b7 (cgJ hf 0 rfl ?_) | refine a6 (dgJ hf 0 rfl ?_) | refine b7 (cp hnm ?_) | refine a6 (dp hnm ?_) | fail); simp -implicitDefEqProofs [hk]) | refine hK _ ?_ | refine hK _ _ (by rfl) ?_ | fail)
    refine e7 (m7 [] rfl ?_); simp -implicitDefEqProofs [l4, g7, g9] <;> try rfl
  | true =>
  rw [hB] at hli
  rw [if_neg (by simp)]
  refine ⟨hE, ?_⟩
  dsimp only
  obtain ⟨mx, ml⟩ := m
  obtain ⟨rx, rl⟩ := ret
  refine e8 Tryz.func19 rfl rfl (Nat.le_of_ble_eq_true rfl) ?_
  refine l9 1 0 12 _ 24 6 L.length (E.map tc) rfl rfl (.inr rfl) (show (1 : Nat) < 2 by decide) (show (0 : Nat) < 2 by decide) ?_
  simp [St.mvw]
  repeat' (first | refine d7 ?_ | refine b9 ?_ | refine a8 ?_ | refine b8 ?_ | refine f7 rfl ?_ | refine f6 rfl ?_ | ((first | refine d6 (fun K hK => ?_) | refine d8 f8 (fun K hK => ?_) | refine b7 (cp hli ?_) | refine a6 (dp hli ?_) | refine b7 (cp hnm ?_) | refine a6 (dp hnm ?_) | fail); simp -implicitDefEqProofs [hk]) | refine hK _ ?_ | refine hK _ _ (by rfl) ?_ | fail)
  refine e7 (m7 [] rfl ?_); simp -implicitDefEqProofs [l4, g7, g9] <;> try rfl
theorem jde_32 (m ret : VT) (hm : p6 m) (hms : m.size ≤ 100000) (i : Nat) (hi : i ≤ 100000) (x : Lab) (l : List VT) (ht : p6 (.mk x l)) (hts : (Tr.mk x l).size ≤ 100000) (hk : x.k = 32) (j : JS) (E : List VT) (hE : OkV j.lo E) : StD m ret i (.mk x l) j E (i7 (.mk x l), if ¬ l.length = 1 then p7 x 12 j else a8l m (l.getD 0 z0T) j) ret E := by
  have hE2 := hE.2
  have hlen := Tr.len_size (x := x) (l := l)
  have hnm := a0k (.mk x l) (by omega)
  obtain ⟨⟨nx, nl⟩, hN⟩ : ∃ s, i7 (.mk x l) = s := ⟨_, rfl⟩
  rw [hN] at hnm ⊢
  clear hN
  obtain ⟨L, a, e⟩ := j
  dsimp only at hE hE2 ⊢
  by_cases h1 : l.length = 1; rotate_left
  · have h1' : ¬ (l.length : Int) = 1 := by omega
    rw [if_pos h1]
    have hf := n4 m ret L.length E a e x l 12
    rw [a0h]
    dsimp only
    refine ⟨hE, ?_⟩
    dsimp only
    generalize (if e = 0 then x.f else a) = a' at hf ⊢
    generalize (if e = 0 then (12 : Int) else e) = e' at hf ⊢
    obtain ⟨mx, ml⟩ := m
    obtain ⟨rx, rl⟩ := ret
    refine e8 Tryz.func19 rfl rfl (Nat.le_of_ble_eq_true rfl) ?_
    refine l9 1 0 12 _ 24 6 L.length (E.map tc) rfl rfl (.inr rfl) (show (1 : Nat) < 2 by decide) (show (0 : Nat) < 2 by decide) ?_
    simp [St.mvw]
    repeat' (first | refine d7 ?_ | refine b9 ?_ | refine a8 ?_ | refine b8 ?_ | refine f7 rfl ?_ | refine f6 rfl ?_ | ((first | refine d6 (fun K hK => ?_) | refine d8 f8 (fun K hK => ?_) | refine b7 (cgJ hf 0 rfl ?_) | refine a6 (dgJ hf 0 rfl ?_) | refine b7 (cp hnm ?_) | refine a6 (dp hnm ?_) | fail); simp -implicitDefEqProofs [hk, h1, h1']) | refine hK _ ?_ | refine hK _ _ (by rfl) ?_ | fail)
    refine e7 (m7 [] rfl ?_); simp -implicitDefEqProofs [l4, g7, g9] <;> try rfl
  obtain ⟨⟨yx, yl⟩, rfl⟩ := s9 h1
  rw [if_neg (by simp), List.getD_cons_zero, b2a]
  have hys := Tr.size_at (x := x) (l := [Tr.mk yx yl]) (i := 0) rfl
  have hcel := a1y m (.mk yx yl) hm (by omega) (((Tr.all_mk _ _ _).1 ht).2 _ (by simp)) (by omega)
  obtain ⟨c, hc⟩ : ∃ c, a1j m (.mk yx yl) = c := ⟨_, rfl⟩
  rw [hc] at hcel ⊢
  clear hc
  have hf := a3t m ret L.length E a e yx yl c hcel
  dsimp only
  rw [Tr.lab]
  refine ⟨hE, ?_⟩
  dsimp only
  generalize (if c = 0 ∧ e = 0 then yx.f else a) = a' at hf ⊢
  generalize (if c = 0 ∧ e = 0 then (11 : Int) else e) = e' at hf ⊢
  clear hcel
  obtain ⟨mx, ml⟩ := m
  obtain ⟨rx, rl⟩ := ret
  refine e8 Tryz.func19 rfl rfl (Nat.le_of_ble_eq_true rfl) ?_
  refine l9 1 0 12 _ 24 6 L.length (E.map tc) rfl rfl (.inr rfl) (show (1 : Nat) < 2 by decide) (show (0 : Nat) < 2 by decide) ?_
  simp [St.mvw]
  repeat' (first | refine d7 ?_ | refine b9 ?_ | refine a8 ?_ | refine b8 ?_ | refine f7 rfl ?_ | refine f6 rfl ?_ | ((first | refine d6 (fun K hK => ?_) | refine d8 f8 (fun K hK => ?_) | refine b7 (cgJ hf 0 rfl ?_) | refine a6 (dgJ hf 0 rfl ?_) | refine b7 (cp hnm ?_) | refine a6 (dp hnm ?_) | fail); simp -implicitDefEqProofs [hk]) | refine hK _ ?_ | refine hK _ _ (by rfl) ?_ | fail)
  refine e7 (m7 [] rfl ?_); simp -implicitDefEqProofs [l4, g7, g9] <;> try rfl
theorem jde_no (m ret : VT) (hm : p6 m) (hms : m.size ≤ 100000) (i : Nat) (hi : i ≤ 100000) (x : Lab) (l : List VT) (ht : p6 (.mk x l)) (hts : (Tr.mk x l).size ≤ 100000) (hk : ¬ x.k = 30 ∧ ¬ x.k = 31 ∧ ¬ x.k = 32 ∧ ¬ x.k = 33) (j : JS) (E : List VT) (hE : OkV j.lo E) : StD m ret i (.mk x l) j E (i7 (.mk x l), p7 x 12 j) ret E := by
  have hE2 := hE.2
  have hlen := Tr.len_size (x := x) (l := l)
  have hnm := a0k (.mk x l) (by omega)
  obtain ⟨⟨nx, nl⟩, hN⟩ : ∃ s, i7 (.mk x l) = s := ⟨_, rfl⟩
  rw [hN] at hnm ⊢
  clear hN
  obtain ⟨L, a, e⟩ := j
  dsimp only at hE hE2 ⊢
  obtain ⟨k0, k1, k2, k3⟩ := hk
  have hf := n4 m ret L.length E a e x l 12
  rw [a0h]
  dsimp only
  refine ⟨hE, ?_⟩
  dsimp only
  generalize (if e = 0 then x.f else a) = a' at hf ⊢
  generalize (if e = 0 then (12 : Int) else e) = e' at hf ⊢
  obtain ⟨mx, ml⟩ := m
  obtain ⟨rx, rl⟩ := ret
  refine e8 Tryz.func19 rfl rfl (Nat.le_of_ble_eq_true rfl) ?_
  refine l9 1 0 12 _ 24 6 L.length (E.map tc) rfl rfl (.inr rfl) (show (1 : Nat) < 2 by decide) (show (0 : Nat) < 2 by decide) ?_
  simp [St.mvw]
  repeat' (first | refine d7 ?_ | refine b9 ?_ | refine a8 ?_ | refine b8 ?_ | refine f7 rfl ?_ | refine f6 rfl ?_ | ((first | refine d6 (fun K hK => ?_) | refine d8 f8 (fun K hK => ?_) | refine b7 (cgJ hf 0 rfl ?_) | refine a6 (dgJ hf 0 rfl ?_) | refine b7 (cp hnm ?_) | refine a6 (dp hnm ?_) | fail); simp -implicitDefEqProofs [k0, k1, k2, k3]) | refine hK _ ?_ | refine hK _ _ (by rfl) ?_ | fail)
  refine e7 (m7 [] rfl ?_); simp -implicitDefEqProofs [l4, g7, g9] <;> try rfl
theorem c2p (m ret ret' : VT) (i : Nat) (x : Lab) (l : List VT) (hk : x.k = 33) (j : JS) (E E' : List VT) (hE : OkV j.lo E) (h : StF m ret (.mk x l) j E (fnJ m x l j) ret' E') : StD m ret i (.mk x l) j E (fnJ m x l j) ret' E' := by
  obtain ⟨ok, hr⟩ := h
  refine ⟨ok, ?_⟩
  clear ok
  have hE2 := hE.2
  obtain ⟨⟨⟨nx, nl⟩, ⟨L', a', e'⟩⟩, hN⟩ : ∃ s, fnJ m x l j = s := ⟨_, rfl⟩
  rw [hN] at hr ⊢
  clear hN
  obtain ⟨L, a, e⟩ := j
  dsimp only at hE hE2 hr ⊢
  obtain ⟨qx, ql⟩ := ret'
  obtain ⟨mx, ml⟩ := m
  obtain ⟨rx, rl⟩ := ret
  refine e8 Tryz.func19 rfl rfl (Nat.le_of_ble_eq_true rfl) ?_
  refine l9 1 0 12 _ 24 6 L.length (E.map tc) rfl rfl (.inr rfl) (show (1 : Nat) < 2 by decide) (show (0 : Nat) < 2 by decide) ?_
  simp [St.mvw]
  repeat' (first | refine d7 ?_ | refine b9 ?_ | refine a8 ?_ | refine b8 ?_ | refine f7 rfl ?_ | refine f6 rfl ?_ | ((first | refine d6 (fun K hK => ?_) | refine d8 f8 (fun K hK => ?_) | refine b7 (cgJ hr 0 rfl ?_) | refine a6 (dgJ hr 0 rfl ?_) | fail); simp -implicitDefEqProofs [hk]) | refine hK _ ?_ | refine hK _ _ (by rfl) ?_ | fail)
  refine e7 (m7 [] rfl ?_); simp -implicitDefEqProofs [l4, g7, g9] <;> try rfl
theorem b7n (m ret : VT) (hm : p6 m) (hms : m.size ≤ 100000) (i : Nat) (hi : i ≤ 100000) (t : VT) (ht : p6 t) (hts : t.size ≤ 100000) (j : JS) (E : List VT) : ∃ ret' E', OkV j.lo E → StD m ret i t j E (a1d m i t j) ret' E' := by
  obtain ⟨x, l⟩ := t
  unfold a1d
  rw [Tr.lab, Tr.kids]
  by_cases h33 : x.k = 33
  · rw [if_pos h33]
    cases hB : fnB x l with
    | false => exact ⟨ret, E, fun hE => c2p m ret ret i x l h33 j E E hE (by
        have := jfn_no m ret x l (by omega) j E hE hB
        have e : fnJ m x l j = (z0T, p7 x 12 j) := by unfold fnJ; rw [if_pos hB]
        rw [e]; exact this)⟩
    | true =>
      obtain ⟨ret', E', h⟩ := c4u m ret hm hms x l ht hts j E hB
      exact ⟨ret', E', fun hE => c2p m ret ret' i x l h33 j E E' hE (h hE)⟩
  rw [if_neg h33]
  refine ⟨ret, E, fun hE => ?_⟩
  by_cases h30 : x.k = 30
  · rw [if_pos h30]; exact jde_30 m ret hm hms i hi x l ht hts h30 j E hE
  rw [if_neg h30]
  by_cases h31 : x.k = 31
  · rw [if_pos h31]; exact jde_31 m ret hm hms i hi x l ht hts h31 j E hE
  rw [if_neg h31]
  by_cases h32 : x.k = 32
  · rw [if_pos h32]; exact jde_32 m ret hm hms i hi x l ht hts h32 j E hE
  rw [if_neg h32]
  exact jde_no m ret hm hms i hi x l ht hts ⟨h30, h31, h32, h33⟩ j E hE
theorem a3p (m d : VT) : ∀ (l : List VT) (i : Nat) (j : JS), m9 m i (l ++ [d]) j = if (m9 m i l j).2.er = 0 then ((m9 m i l j).1 ++ [(a1d m (i + l.length) d (m9 m i l j).2).1], (a1d m (i + l.length) d (m9 m i l j).2).2) else m9 m i l j
  | [], i, j => by
    simp only [List.nil_append, m9, List.length_nil, Nat.add_zero]
    rfl
  | y :: l, i, j => by
    rw [List.cons_append]
    unfold m9
    by_cases h : j.er = 0
    · rw [if_pos h, if_pos h, a3p m d l]
      dsimp only
      rw [show i + 1 + l.length = i + (y :: l).length by simp; omega]
      split <;> rfl
    · rw [if_neg h, if_neg h, a3p m d l, show i + 1 + l.length = i + (y :: l).length by simp; omega]
theorem a4y (m : VT) : ∀ (l : List VT) (i : Nat) (j : JS), (m9 m i l j).1.length ≤ l.length
  | [], i, j => Nat.le_refl _
  | y :: l, i, j => by
    unfold m9
    split
    · have := a4y m l (i + 1) (a1d m i y j).2
      simp; omega
    · have := a4y m l (i + 1) j
      simp; omega
theorem a2i (m : VT) (hm : p6 m) (hms : m.size ≤ 100000) : Row Tryz.prog 7 [vT m] [] (vT3i (a3w m)) [] := by
  have hdec := fun ret i hi t ht hts j E => b7n m ret hm hms i hi t ht hts j E
  have hkin : ∀ d ∈ m.kids, p6 d ∧ d.size ≤ 100000 := fun d hd => by
    obtain ⟨x, l⟩ := m
    exact ⟨((Tr.all_mk _ _ _).1 hm).2 d hd, by have := a1e (x := x) (show d ∈ l from hd); omega⟩
  have hj0 : (a2v m).lo = [] := by unfold a2v; split; rfl; rw [u5]
  have hjn : (a2v m).er = if m.lab.k = 36 then 0 else 12 := by unfold a2v; split; rfl; rfl
  have hja : (a2v m).at' = if m.lab.k = 36 then 0 else m.lab.f := by unfold a2v; split; rfl; rfl
  have hlm : m.kids.length < m.size := by obtain ⟨x, l⟩ := m; exact Tr.len_size (x := x) (l := l)
  have hM : a3w m = if (m9 m 0 m.kids (a2v m)).2.er = 0 then (.mk ⟨m.lab.k, m.lab.n, ⟨#[]⟩, 0, 0⟩ (m9 m 0 m.kids (a2v m)).1, 0, 0) else (z0T, (m9 m 0 m.kids (a2v m)).2.at', (m9 m 0 m.kids (a2v m)).2.er) := rfl
  obtain ⟨⟨⟨rx, rl⟩, r2, r3⟩, hR⟩ : ∃ r, a3w m = r := ⟨_, rfl⟩
  rw [hR] at hM ⊢
  clear hR
  obtain ⟨J0, hJ⟩ : ∃ J, a2v m = J := ⟨_, rfl⟩
  rw [hJ] at hj0 hjn hja hM
  clear hJ
  obtain ⟨L0, a0, e0⟩ := J0
  dsimp only at hj0 hjn hja
  subst hj0
  have hff := n4 m z0T 0 [] 0 0 m.lab m.kids 12
  rw [if_pos rfl, if_pos rfl] at hff
  have q0 : m9 m 0 (m.kids.take 0) ⟨[], a0, e0⟩ = ([], ⟨[], a0, e0⟩) := rfl
  obtain ⟨mx, ml⟩ := m
  rw [Tr.lab, Tr.kids] at *
  refine e8 Tryz.func7 rfl rfl (Nat.le_of_ble_eq_true rfl) ?_
  refine d7 ?_
  refine d6 (fun K hK => ?_); simp -implicitDefEqProofs; refine hK _ ?_
  refine d7 ?_
  refine d6 (fun K hK => ?_); simp -implicitDefEqProofs; refine hK _ ?_
  refine a2u 6 12 _ 24 6 rfl rfl (by dsimp only; omega) ?_
  simp [St.nilca]
  refine l9 8 6 12 _ 24 6 0 [] rfl rfl (.inl rfl) (by dsimp only; omega) (by dsimp only; omega) ?_
  simp [St.mvw]
  refine a7o (ι := Unit) (fun _ => a0w [(1, .v (.c (.ptr 0 0))), (2, .v (.c (.ptr 1 0))), (5, .v (.c (.ptr 2 0)))] [some (.box (ta (.mk mx ml))), some zTb, some (bxJ 3 (.mk mx ml) z0T 0 a0 e0), some (arJ [])]) (fun _ => True) (fun Z hI => ?_) (fun _ _ => ?_)
  · by_cases k36 : mx.k = 36
    · rw [if_pos k36] at hjn hja
      subst hjn hja
      repeat (first | refine d7 ?_ | refine b9 ?_ | refine a8 ?_ | refine b8 ?_ | refine f7 rfl ?_ | refine f6 rfl ?_ | ((first | refine d6 (fun K hK => ?_) | refine d8 f8 (fun K hK => ?_) | fail); simp -implicitDefEqProofs [k36]; first | refine hK _ ?_ | refine hK _ _ (by rfl) ?_ | fail) | fail)
      refine ⟨(), (by trivial), ?_⟩; rw [hI]; exact i6 [0, 1, 6, 9] (by simp -implicitDefEqProofs [k36]) (by simp -implicitDefEqProofs [k36]) (by decide) rfl (by simp)
    · rw [if_neg k36] at hjn hja
      subst hjn hja
      repeat' (first | refine d7 ?_ | refine b9 ?_ | refine a8 ?_ | refine b8 ?_ | refine f7 rfl ?_ | refine f6 rfl ?_ | ((first | refine d6 (fun K hK => ?_) | refine d8 f8 (fun K hK => ?_) | refine b7 (cgJ hff 6 rfl ?_) | refine a6 (dgJ hff 6 rfl ?_) | fail); simp -implicitDefEqProofs [k36]) | refine hK _ ?_ | refine hK _ _ (by rfl) ?_ | fail)
      refine ⟨(), (by trivial), ?_⟩; rw [hI]; exact i6 [0, 1, 6, 9] (by simp -implicitDefEqProofs) (by simp -implicitDefEqProofs) (by decide) rfl (by simp)
  refine d7 ?_
  refine d6 (fun K hK => ?_); simp -implicitDefEqProofs; refine hK _ ?_
  refine a3k 9 3 _ 24 6 rfl rfl (by dsimp only; omega) ?_
  simp [St.nilc]
  repeat (first | refine d7 ?_ | refine b9 ?_ | refine a8 ?_ | refine b8 ?_ | refine f7 rfl ?_ | refine f6 rfl ?_ | ((first | refine d6 (fun K hK => ?_) | refine d8 f8 (fun K hK => ?_) | fail); simp -implicitDefEqProofs; first | refine hK _ ?_ | refine hK _ _ (by rfl) ?_ | fail) | fail)
  refine v7 (ι := Nat × VT × List VT) (fun p => a0w [(1, .v (.c (.ptr 0 0))), (2, .v (.c (.ptr 1 0))), (5, .v (.c (.ptr 2 0))), (6, .v (.c (.ptr 4 0))), (24, vLs ml), (25, vI (ml.length : Nat)), (26, vI (p.1 : Nat))] [some (.box (ta (.mk mx ml))), some zTb, some (bxJ 3 (.mk mx ml) p.2.1 (m9 (.mk mx ml) 0 (ml.take p.1) ⟨[], a0, e0⟩).2.lo.length (m9 (.mk mx ml) 0 (ml.take p.1) ⟨[], a0, e0⟩).2.at' (m9 (.mk mx ml) 0 (ml.take p.1) ⟨[], a0, e0⟩).2.er), some (arJ p.2.2), some (.box [.pv (I mx.k), .pv (I mx.n), .pv (Sx ⟨#[]⟩), .row 5 6 ((m9 (.mk mx ml) 0 (ml.take p.1) ⟨[], a0, e0⟩).1.map tc), .pv (I 0), .pv (I 0)]), some (.row 24 6)]) (fun p => p.1 ≤ ml.length ∧ OkV (m9 (.mk mx ml) 0 (ml.take p.1) ⟨[], a0, e0⟩).2.lo p.2.2) (fun p => ml.length - p.1) (0, z0T, []) ⟨Nat.zero_le _, by rw [q0]; exact a13 _⟩ (by dsimp only; rw [q0]; exact i6 [0, 1, 2, 3, 9, 11] (by simp -implicitDefEqProofs) (by simp -implicitDefEqProofs) (by decide) rfl (by simp)) (fun Z hI p hp => ?_)
  obtain ⟨k, ⟨ox, ol⟩, E⟩ := p
  obtain ⟨hk, hE⟩ := hp
  dsimp only at hk hE ⊢
  by_cases hkl : k < ml.length; rotate_left
  · have : k = ml.length := by omega
    subst this
    rw [List.take_length] at hE ⊢
    obtain ⟨⟨acc, ⟨L1, a1, e1⟩⟩, hS⟩ : ∃ s, m9 (.mk mx ml) 0 ml ⟨[], a0, e0⟩ = s := ⟨_, rfl⟩
    rw [hS] at hM ⊢
    dsimp only at hM ⊢
    by_cases he : e1 = 0
    · subst he
      rw [if_pos rfl] at hM
      cases hM
      repeat (first | refine d7 ?_ | refine b9 ?_ | refine a8 ?_ | refine b8 ?_ | refine f7 rfl ?_ | refine f6 rfl ?_ | ((first | refine d6 (fun K hK => ?_) | refine d8 f8 (fun K hK => ?_) | fail); simp -implicitDefEqProofs; first | refine hK _ ?_ | refine hK _ _ (by rfl) ?_ | fail) | fail)
      refine e7 (e9 ?_); simp -implicitDefEqProofs [j9, g7, g9] <;> try rfl
    · rw [if_neg he] at hM
      cases hM
      repeat (first | refine d7 ?_ | refine b9 ?_ | refine a8 ?_ | refine b8 ?_ | refine f7 rfl ?_ | refine f6 rfl ?_ | ((first | refine d6 (fun K hK => ?_) | refine d8 f8 (fun K hK => ?_) | fail); simp -implicitDefEqProofs [he]; first | refine hK _ ?_ | refine hK _ _ (by rfl) ?_ | fail) | fail)
      refine e7 (e9 ?_); simp -implicitDefEqProofs [j9, g7, g9, he] <;> try rfl
  obtain ⟨⟨yx, yl⟩, hy⟩ : ∃ y, ml[k]? = some y := ⟨_, List.getElem?_eq_getElem hkl⟩
  have hy' := (List.getElem?_eq_some_iff.1 hy).2
  have w2 : IntKind.i64.wrap ((k : Nat) + 1 : Int) = (k : Nat) + 1 := v6 _ (by omega) (by omega)
  have hs := a3p (.mk mx ml) (.mk yx yl) (ml.take k) 0 ⟨[], a0, e0⟩
  rw [← a5v hy, List.length_take, Nat.min_eq_left hk, Nat.zero_add] at hs
  have hal := a4y (.mk mx ml) (ml.take k) 0 ⟨[], a0, e0⟩
  rw [List.length_take, Nat.min_eq_left hk] at hal
  obtain ⟨⟨acc, ⟨L1, a1, e1⟩⟩, hS⟩ : ∃ s, m9 (.mk mx ml) 0 (ml.take k) ⟨[], a0, e0⟩ = s := ⟨_, rfl⟩
  rw [hS] at hE hs hal ⊢
  dsimp only at hE hs hal ⊢
  by_cases he : e1 = 0
  · subst he
    rw [if_pos rfl] at hs
    obtain ⟨q1, q2⟩ := hkin _ (List.mem_of_getElem? hy)
    obtain ⟨⟨zx, zl⟩, E', hd⟩ := hdec (.mk ox ol) k (by omega) (.mk yx yl) q1 q2 ⟨L1, a1, 0⟩ E
    obtain ⟨ok, hr⟩ := hd hE
    obtain ⟨⟨⟨sx, sl⟩, ⟨L2, a2, e2⟩⟩, hT⟩ : ∃ s, a1d (.mk mx ml) k (.mk yx yl) ⟨L1, a1, 0⟩ = s := ⟨_, rfl⟩
    rw [hT] at hs ok hr
    dsimp only at hs ok hr
    have b1 : (acc.length + 1) * 72 ≤ 140737488355328 := by omega
    have b2 : acc.length + 1 ≤ 140737488355328 := by omega
    clear hdec hkin hM hff q0 hS hT hd
    repeat' (first | refine d7 ?_ | refine b9 ?_ | refine a8 ?_ | refine b8 ?_ | refine f7 rfl ?_ | refine f6 rfl ?_ | ((first | refine d6 (fun K hK => ?_) | refine d8 f8 (fun K hK => ?_) | refine b7 (cgJ hr 2 rfl ?_) | refine a6 (dgJ hr 2 rfl ?_) | fail); simp -implicitDefEqProofs [hkl, hy, hy', w2, b1, b2]) | refine hK _ ?_ | refine hK _ _ (by rfl) ?_ | fail)
    refine ⟨(k + 1, .mk zx zl, E'), ⟨hkl, by dsimp only; rw [hs]; exact ok⟩, (by dsimp only; omega), ?_⟩
    rw [hI]
    dsimp only
    rw [hs]
    exact i6 [0, 1, 2, 58, 4, 74] (by simp -implicitDefEqProofs) (by simp -implicitDefEqProofs) (by decide) rfl (by simp)
  · rw [if_neg he] at hs
    clear hdec hkin hM hff q0 hS
    repeat (first | refine d7 ?_ | refine b9 ?_ | refine a8 ?_ | refine b8 ?_ | refine f7 rfl ?_ | refine f6 rfl ?_ | ((first | refine d6 (fun K hK => ?_) | refine d8 f8 (fun K hK => ?_) | fail); simp -implicitDefEqProofs [hkl, hy, hy', w2, he]; first | refine hK _ ?_ | refine hK _ _ (by rfl) ?_ | fail) | fail)
    refine ⟨(k + 1, .mk ox ol, E), ⟨hkl, by dsimp only; rw [hs]; exact hE⟩, (by dsimp only; omega), ?_⟩
    rw [hI]
    dsimp only
    rw [hs]
    exact i6 [0, 1, 2, 3, 4, 5] (by simp -implicitDefEqProofs) (by simp -implicitDefEqProofs) (by decide) rfl (by simp)
noncomputable def rgtP (m : VT) : Bool := decide ((a3w m).2.2 = 0) && b2e m && same m (a3w m).1
theorem a6z (m : VT) (hm : p6 m) (hms : m.size ≤ 100000) (hss : (a3w m).1.size ≤ 100000) : Row Tryz.prog 8 [vT m] [] (vB (rgtP m)) [] := by
  have h1 := a2i m hm hms
  have h2 := c03 m (by omega)
  have h3 := a1u m (by omega) (a3w m).1 (by omega)
  unfold rgtP
  obtain ⟨⟨⟨sx, sl⟩, b, c⟩, hM⟩ : ∃ s, a3w m = s := ⟨_, rfl⟩
  rw [hM] at h1 h3 ⊢
  dsimp only at h1 h3 ⊢
  obtain ⟨u, hu⟩ : ∃ u, b2e m = u := ⟨_, rfl⟩
  rw [hu] at h2 ⊢
  obtain ⟨q, hq⟩ : ∃ u, same m (.mk sx sl) = u := ⟨_, rfl⟩
  rw [hq] at h3 ⊢
  clear hM hu hq
  obtain ⟨mx, ml⟩ := m
  by_cases hc : c = 0
  · subst hc
    cases u with
    | true =>
      refine e8 Tryz.func8 rfl rfl (Nat.le_of_ble_eq_true rfl) ?_
      repeat' (first | refine d7 ?_ | refine b9 ?_ | refine a8 ?_ | refine b8 ?_ | refine f7 rfl ?_ | refine f6 rfl ?_ | ((first | refine d6 (fun K hK => ?_) | refine d8 f8 (fun K hK => ?_) | refine b7 (cp h1 ?_) | refine a6 (dp h1 ?_) | refine b7 (cp h2 ?_) | refine a6 (dp h2 ?_) | refine b7 (cp h3 ?_) | refine a6 (dp h3 ?_) | fail); simp -implicitDefEqProofs) | refine hK _ ?_ | refine hK _ _ (by rfl) ?_ | fail)
      refine e7 (e9 ?_); simp -implicitDefEqProofs [j9, g7, g9] <;> try rfl
    | false =>
      refine e8 Tryz.func8 rfl rfl (Nat.le_of_ble_eq_true rfl) ?_
      repeat' (first | refine d7 ?_ | refine b9 ?_ | refine a8 ?_ | refine b8 ?_ | refine f7 rfl ?_ | refine f6 rfl ?_ | ((first | refine d6 (fun K hK => ?_) | refine d8 f8 (fun K hK => ?_) | refine b7 (cp h1 ?_) | refine a6 (dp h1 ?_) | refine b7 (cp h2 ?_) | refine a6 (dp h2 ?_) | refine b7 (cp h3 ?_) | refine a6 (dp h3 ?_) | fail); simp -implicitDefEqProofs) | refine hK _ ?_ | refine hK _ _ (by rfl) ?_ | fail)
      refine e7 (e9 ?_); simp -implicitDefEqProofs [j9, g7, g9] <;> try rfl
  · refine e8 Tryz.func8 rfl rfl (Nat.le_of_ble_eq_true rfl) ?_
    repeat' (first | refine d7 ?_ | refine b9 ?_ | refine a8 ?_ | refine b8 ?_ | refine f7 rfl ?_ | refine f6 rfl ?_ | ((first | refine d6 (fun K hK => ?_) | refine d8 f8 (fun K hK => ?_) | refine b7 (cp h1 ?_) | refine a6 (dp h1 ?_) | refine b7 (cp h2 ?_) | refine a6 (dp h2 ?_) | refine b7 (cp h3 ?_) | refine a6 (dp h3 ?_) | fail); simp -implicitDefEqProofs [hc]) | refine hK _ ?_ | refine hK _ _ (by rfl) ?_ | fail)
    refine e7 (e9 ?_); simp -implicitDefEqProofs [j9, g7, g9, hc] <;> try rfl
end Go.Proofs.YthmdllhhmhbhbaaGreatDoor.am
end
section
namespace Go.Proofs.YthmdllhhmhbhbaaGreatDoor.am
open vt
set_option linter.unusedVariables false
set_option linter.unusedSimpArgs false
def Ff (n : Nat) (l : List VT) : Prop := (∀ y ∈ l, p6 y) ∧ (l.map Tr.size).sum ≤ n
theorem a6o {n : Nat} {t : VT} (h : x4 n t) : Ff n [t] := ⟨fun y hy => by rw [List.mem_singleton.1 hy]; exact h.1, by simpa using h.2⟩
theorem a1n {n k : Nat} {t : VT} {l : List VT} (h : x4 n t) (hl : Ff k l) : Ff (n + k) (t :: l) := ⟨fun y hy => by
  rcases List.mem_cons.1 hy with hy | hy
  · rw [hy]; exact h.1
  · exact hl.1 y hy, by rw [List.map_cons, List.sum_cons]; exact Nat.add_le_add h.2 hl.2⟩
theorem c4i {n : Nat} {l : List VT} {x : Lab} (hx : x.ok) (h : Ff n l) : x4 (1 + n) (.mk ⟨x.k, x.n, ⟨#[]⟩, 0, 0⟩ l) := ⟨(Tr.all_mk _ _ _).2 ⟨⟨hx.1, hx.2.1, by constructor <;> (dsimp only; omega), by constructor <;> (dsimp only; omega)⟩, h.1⟩, by rw [Tr.size_mk]; exact Nat.add_le_add_left h.2 1⟩
theorem a0t {m : VT} {B N : Nat} (hm : x4 B m) (hms : m.size ≤ 1000000) {j : JS} (h : Lk B N j) {t : VT} (ht : p6 t) (hts : t.size ≤ 1000000) : x4 t.size (l5 m t j).2.1 := by
  unfold l5
  split
  · exact y9 (Tr.size_pos t)
  · exact (b3k hm hms h.fine t ht hts).fo
theorem b8k {m ret : VT} {B0 : Nat} (hm : x4 B0 m) (hms : m.size ≤ 1000000) : ∀ {l : List VT}, (∀ y ∈ l, p6 y) → (∀ y ∈ l, ∀ (j : JS) (B N : Nat), B0 ≤ B → Lk B N j → B + y.size ≤ 1000000 → x4 y.size (j7 m ret y j).1) → ∀ (j : JS) (B N : Nat), B0 ≤ B → Lk B N j → B + (l.map Tr.size).sum ≤ 1000000 → Ff (l.map Tr.size).sum (t8 (l.map (j7 m ret)) j).1
  | [], _, _, j, B, N, h0, h, _ => ⟨fun y hy => (List.not_mem_nil hy).elim, Nat.le_refl _⟩
  | y :: l, hin, hq, j, B, N, h0, h, hb => by
    rw [List.map_cons, List.sum_cons] at hb ⊢
    rw [List.map_cons]
    have h1 := hq y (.head _) j B N h0 h (by omega)
    have h2 := c3b hm hms (ret := ret) y (hin y (.head _)) j B N h0 h (by omega)
    exact a1n h1 (b8k hm hms (l := l) (fun z hz => hin z (.tail _ hz)) (fun z hz => hq z (.tail _ hz)) _ (B + y.size) (N + y.size) (by omega) h2 (by omega))
theorem stm_ff {m ret : VT} {B0 : Nat} (hm : x4 B0 m) (hms : m.size ≤ 1000000) (t : VT) : p6 t → ∀ (j : JS) (B N : Nat), B0 ≤ B → Lk B N j → B + t.size ≤ 1000000 → x4 t.size (j7 m ret t j).1 := by
  induction t using Tr.ind with
  | h x l ih =>
  intro ht j B N h0 h hb
  obtain ⟨hx, hkin⟩ := (Tr.all_mk _ x l).1 ht
  have hsz : (Tr.mk x l).size = 1 + (l.map Tr.size).sum := Tr.size_mk x l
  have hp := Tr.size_pos (Tr.mk x l)
  have hmB := hm.le h0
  rw [a1t]
  unfold a5t
  split
  · exact y9 hp
  split
  · exact y9 hp
  rename_i hsh
  have hsh : a0e x l = true := by simpa using hsh
  rw [hsz]
  refine c4i hx ?_
  have hsq := b8k (ret := ret) hm hms hkin (fun y hy j B N h0 h hb => ih y hy (hkin y hy) j B N h0 h hb) j B N h0 h (by omega)
  have nil : ∀ n, Ff n [] := fun n => ⟨fun y hy => (List.not_mem_nil hy).elim, Nat.zero_le _⟩
  unfold a1g
  split
  · unfold a6j
    split
    · exact nil _
    · exact hsq
  rename_i c29
  unfold a0e at hsh
  rw [if_neg c29, Bool.and_eq_true] at hsh
  have hl := of_decide_eq_true hsh.1
  have one : ∀ {t : VT}, l = [t] → p6 t ∧ t.size = (l.map Tr.size).sum := fun e => by subst e; exact ⟨hkin _ (by simp), by simp⟩
  have ofo : ∀ (t : VT) (p : VT → Bool), p6 t → t.size ≤ (l.map Tr.size).sum → x4 t.size (ofJ m t p j).1 := fun t p hi hs => by
    have := a0t hmB hms h hi (by omega)
    exact this
  split
  · rename_i c; rw [c] at hl
    obtain ⟨t, rfl⟩ := s9 (l := l) (by simp [v8] at hl; omega)
    obtain ⟨h1, h2⟩ := one rfl
    rw [← h2]
    exact a6o (a0t hmB hms h h1 (by omega))
  split
  · rename_i c; rw [c] at hl
    obtain ⟨t, rfl⟩ := s9 (l := l) (by simp [v8] at hl; omega)
    obtain ⟨h1, h2⟩ := one rfl
    rw [← h2]
    exact a6o ⟨a79 t h1, by show (i7 t).size ≤ _; rw [a26]; exact Nat.le_refl _⟩
  split
  · rename_i c; rw [c] at hl
    obtain ⟨a, b, rfl⟩ : ∃ a b, l = [a, b] := by
      match l, (show l.length = 2 by simp [v8] at hl; omega) with
      | [a, b], _ => exact ⟨a, b, rfl⟩
    simp only [List.map_cons, List.map_nil, List.sum_cons, List.sum_nil, Nat.add_zero] at hb hsz ⊢
    have h1 := a0t hmB hms h (hkin a (by simp)) (by omega)
    have h2 := a0t (t := b) hmB hms (h.of (y3 m a j)) (hkin b (by simp)) (by omega)
    unfold b0a
    exact a1n h1 (a6o h2)
  split
  · rename_i c
    cases l with
    | nil => rcases c with c | c <;> rw [c] at hl <;> simp [v8] at hl
    | cons t r =>
      simp only [List.map_cons, List.sum_cons] at hb hsz ⊢
      refine a1n (a0t hmB hms h (hkin t (by simp)) (by omega)) ?_
      exact b8k (ret := ret) hm hms (fun y hy => hkin y (by simp [hy])) (fun y hy j B N h0 h hb => ih y (by simp [hy]) (hkin y (by simp [hy])) j B N h0 h hb) _ B N h0 (h.of (w8 _ _ _ _)) (by omega)
  split
  · rename_i c; rw [c] at hl
    obtain ⟨a, b, d, rfl⟩ := t7 (l := l) (by simp [v8] at hl; omega)
    simp only [List.map_cons, List.map_nil, List.sum_cons, List.sum_nil, Nat.add_zero] at hb hsz ⊢
    have hB1 : 1 ≤ B := Nat.le_trans (Nat.le_trans (Tr.size_pos m) hm.2) h0
    have k1 := w8 m a (fun t => isT t 1) j
    have h1 : x4 a.size (ofJ m a (fun t => isT t 1) j).1 := a0t hmB hms h (hkin a (by simp)) (by omega)
    have h2 : x4 b.size (ofJ m b (fun t => isT t 1) (ofJ m a (fun t => isT t 1) j).2).1 := a0t hmB hms (h.of k1) (hkin b (by simp)) (by omega)
    have h3 := ih d (by simp) (hkin d (by simp)) (a2q (tyT 1) (ofJ m b (fun t => isT t 1) (ofJ m a (fun t => isT t 1) j).2).2) B (N + 1) h0 ((h.of (by rw [w8, w8])).brg (a0u (k := 1) hB1 (by omega))) (by omega)
    unfold b1q
    exact a1n h1 (a1n h2 (a6o h3))
  have last : ∀ {t : VT}, l = [t] → ∀ u : VT, x4 t.size u → Ff (l.map Tr.size).sum [u] := fun e u hu => by rw [← (one e).2]; exact a6o hu
  have hl1 : ∃ t, l = [t] := by
    rename_i c20 c21 c22 c23 c25
    refine s9 ?_
    have e : (v8 x.k).1 = 1 ∨ (v8 x.k).1 = -1 := by
      unfold v8
      have d3 : ¬ x.k = 23 := fun h => c23 (.inl h)
      have d4 : ¬ x.k = 24 := fun h => c23 (.inr h)
      simp only [c20, c21, c22, d3, d4, c25, if_false]
      split <;> simp
    omega
  obtain ⟨t, ht1⟩ := hl1
  obtain ⟨g1, g2⟩ := one ht1
  have hg : l.getD 0 z0T = t := by rw [ht1]; rfl
  rw [hg]
  split
  · exact last ht1 _ (a0t hmB hms h g1 (by omega))
  split
  · exact last ht1 _ (a0t hmB hms h g1 (by omega))
  · refine last ht1 _ ?_
    unfold doJ
    dsimp only
    refine a0t hmB hms (h.of ?_) g1 (by omega)
    split
    · rfl
    · exact u5 _ _ _
theorem dec_ff {m : VT} (hm : p6 m) (hms : m.size ≤ 100000) (i : Nat) (t : VT) (ht : p6 t) (hts : t.size ≤ 100000) (j : JS) : x4 t.size (a1d m i t j).1 := by
  obtain ⟨x, l⟩ := t
  have hn : x4 (Tr.mk x l).size (i7 (.mk x l)) := ⟨a79 _ ht, by show (i7 (.mk x l)).size ≤ _; rw [a26]; exact Nat.le_refl _⟩
  unfold a1d
  split
  · show x4 _ (fnJ m x l j).1
    unfold fnJ
    split
    · exact y9 (Tr.size_pos _)
    · rename_i hs
      have hs : fnB x l = true := by simpa using hs
      obtain ⟨hx, hkin⟩ := (Tr.all_mk _ x l).1 ht
      unfold fnB at hs
      simp only [Bool.and_eq_true, decide_eq_true_eq] at hs
      obtain ⟨⟨⟨⟨⟨_, h3⟩, _⟩, hP⟩, _⟩, _⟩ := hs
      obtain ⟨⟨px, pl⟩, r, b, rfl⟩ := t7 h3
      have ip := hkin (.mk px pl) (by simp)
      have s0 := Tr.size_at (x := x) (l := [Tr.mk px pl, r, b]) (i := 0) rfl
      have s2 := Tr.size_at (x := x) (l := [Tr.mk px pl, r, b]) (i := 2) rfl
      rw [Tr.size_mk]
      refine c4i hx ?_
      simp only [List.map_cons, List.map_nil, List.sum_cons, List.sum_nil, Nat.add_zero, List.getD_cons_zero, List.getD_cons_succ] at hP ⊢
      refine a1n ⟨a79 _ ip, by show (i7 (.mk px pl)).size ≤ _; rw [a26]; exact Nat.le_refl _⟩ (a1n ⟨a79 _ (hkin r (by simp)), by show (i7 r).size ≤ _; rw [a26]; exact Nat.le_refl _⟩ (a6o ?_))
      refine stm_ff (B0 := 200000) ⟨hm, by omega⟩ (by omega) b (hkin b (by simp)) (fnS m x [Tr.mk px pl, r, b] j) 200000 (pl.length) (Nat.le_refl _) ⟨fun t ht' => ?_, ?_⟩ (by omega)
      · obtain ⟨y, hy, rfl⟩ := List.mem_map.1 (show t ∈ (pl.map fun q => q.kids.getD 0 z0T).map a0r from ht')
        obtain ⟨q, hq, rfl⟩ := List.mem_map.1 hy
        have hF : x4 (Tr.mk px pl).size q := ⟨((Tr.all_mk _ _ _).1 ip).2 q hq, Nat.le_of_lt (a1e (x := px) hq)⟩
        exact x4.bare ((hF.kid 0).le (by omega))
      · show ((pl.map fun q => q.kids.getD 0 z0T).map a0r).length ≤ _
        rw [List.length_map, List.length_map]; exact Nat.le_refl _
  · exact hn
theorem b1h {m : VT} (hm : p6 m) (hms : m.size ≤ 100000) : ∀ (l : List VT) (i : Nat) (j : JS), (∀ y ∈ l, p6 y ∧ y.size ≤ 100000) → Ff (l.map Tr.size).sum (m9 m i l j).1
  | [], i, j, h => ⟨fun y hy => (List.not_mem_nil hy).elim, Nat.le_refl _⟩
  | y :: l, i, j, h => by
    have hl := fun z hz => h z (List.mem_cons_of_mem y hz)
    rw [List.map_cons, List.sum_cons]
    unfold m9
    split
    · exact a1n (dec_ff hm hms i y (h y (.head _)).1 (h y (.head _)).2 j) (b1h hm hms l (i + 1) _ hl)
    · have := b1h hm hms l (i + 1) j hl
      exact ⟨this.1, by have := this.2; omega⟩
theorem a9y {m : VT} (hm : p6 m) (hms : m.size ≤ 100000) : x4 m.size (a3w m).1 := by
  obtain ⟨x, l⟩ := m
  unfold a3w
  split
  · rw [Tr.size_mk]
    exact c4i ((Tr.all_mk _ x l).1 hm).1 (b1h hm hms l 0 _ (fun y hy => ⟨((Tr.all_mk _ x l).1 hm).2 y hy, by have := a1e (x := x) hy; omega⟩))
  · exact y9 (Tr.size_pos _)
end Go.Proofs.YthmdllhhmhbhbaaGreatDoor.am
end
