import Derived.Test.YtlkggpjdaaglmaaPkF4
section
namespace Go.Proofs.Ytlkggpjdaaglmaa.am
open Go.ChangeShapes Go.WideShapes Go.ChangeAt Go.RowKit
open vt bs
set_option linter.unusedVariables false
set_option linter.unusedSimpArgs false
abbrev vPs' (ps : List (List Int)) : AV := .v (.c (.pv (.sl 1 (ps.map pcc'))))
set_option maxRecDepth 100000 in
set_option maxHeartbeats 4000000 in
theorem walk0L_row (x : Lab) : Row Try.prog 54 [vT (.mk x []), .v (.c (.pv .nilS)), kF] [tlB 0 0 1 [], rwP] (.v (.c (.arr 3 1 0))) [some (tlB 0 0 2 [[]]), none, some rwP, some (arP [])] := by
  have e := keep_row 0 0 [] [] (fun z hz => by cases hz) (by decide) (by decide)
  simp only [List.length_nil] at e
  refine row_of Try.func54 rfl rfl (Nat.le_of_ble_eq_true rfl) ?_
  refine aw_nila 1 3 1 rfl ?_
  simp [St.nila]
  repeat' (first | refine aw_seq ?_ | refine aw_skip ?_ | refine aw_block ?_ | refine aw_exit ?_ | refine aw_cond rfl (fun _ => ?_) (fun hb => absurd hb (by decide)) | refine aw_cond rfl (fun hb => absurd hb (by decide)) (fun _ => ?_) | (refine aw_reg (fun K hK => ?_); simp -implicitDefEqProofs) | (refine aw_drw mixd (fun K hK => ?_); simp -implicitDefEqProofs) | refine hK _ ?_ | refine hK _ _ (by rfl) ?_ | (refine ar_call (cg e [0,2,1] ?_); simp -implicitDefEqProofs) | (refine ard_call (dg e [0,2,1] ?_); simp -implicitDefEqProofs) | fail)
  refine aw_lp (ι := Unit) (fun k => mkSt [(1, .v (.c (.arr 3 1 0))), (14, vI 0), (15, vI 0)] [some (tlB 0 0 2 [[]]), none, some rwP, some (arP [])]) (fun k => True) (fun k => 0) () trivial (cov_intro [0, 1, 7, 2] (by simp -implicitDefEqProofs) (by simp -implicitDefEqProofs) (by decide) rfl (by simp)) (fun Z hI k hk => ?_)
  repeat (first | refine aw_seq ?_ | refine aw_skip ?_ | refine aw_block ?_ | refine aw_exit ?_ | refine aw_cond rfl (fun _ => ?_) (fun hb => absurd hb (by decide)) | refine aw_cond rfl (fun hb => absurd hb (by decide)) (fun _ => ?_) | (refine aw_reg (fun K hK => ?_); simp -implicitDefEqProofs; refine hK _ ?_) | (refine aw_drw mixd (fun K hK => ?_); simp -implicitDefEqProofs; refine hK _ _ (by rfl) ?_) | fail)
  refine aw_ret (fin_g [0, 1, 2, 3] ?_); simp -implicitDefEqProofs [FinG, resV, resT] <;> try rfl
set_option maxRecDepth 100000 in
set_option maxHeartbeats 4000000 in
theorem walk0_row : ∀ (n : Nat) (x : Lab) (l : List VT), (Tr.mk x l).size ≤ n → l ≠ [] → n ≤ 900000 →
    Row Try.prog 54 [vT (.mk x l), .v (.c (.pv .nilS)), kF] [tlB 0 0 1 [], rwP] (.v (.c (.vw 3 1 0 0))) [some (tlB 0 0 2 (ptsD n (.mk x l))), none, some rwP, some (arP (finF n (.mk x l) []))] := by
  intro n
  cases n with
  | zero => intro x l h; have := Tr.size_pos (.mk x l); omega
  | succ m =>
    intro x l hsz hne hnb
    have e := keep_row 0 0 [] [] (fun z hz => by cases hz) (by decide) (by decide)
    simp only [List.length_nil] at e
    have hln : l.length < (Tr.mk x l).size := Tr.len_size
    have h0l : 0 < l.length := List.length_pos_iff.2 hne
    have hS := Tr.size_mk x l
    refine row_of Try.func54 rfl rfl (Nat.le_of_ble_eq_true rfl) ?_
    refine aw_nila 1 3 1 rfl ?_
    simp [St.nila]
    repeat' (first | refine aw_seq ?_ | refine aw_skip ?_ | refine aw_block ?_ | refine aw_exit ?_ | refine aw_cond rfl (fun _ => ?_) (fun hb => absurd hb (by decide)) | refine aw_cond rfl (fun hb => absurd hb (by decide)) (fun _ => ?_) | (refine aw_reg (fun K hK => ?_); simp -implicitDefEqProofs) | (refine aw_drw mixd (fun K hK => ?_); simp -implicitDefEqProofs) | refine hK _ ?_ | refine hK _ _ (by rfl) ?_ | (refine ar_call (cg e [0,2,1] ?_); simp -implicitDefEqProofs) | (refine ard_call (dg e [0,2,1] ?_); simp -implicitDefEqProofs) | fail)
    refine aw_lp (ι := Nat) (fun k => if k = 0 then mkSt [(1, .v (.c (.arr 3 1 0))), (2, kF), (13, vLs l), (14, vI (l.length : Nat)), (15, vI (k : Nat))] [some (tlB 0 0 2 (psK m l [] [] k)), none, some rwP, some (arP [])]
      else mkSt [(1, .v (.c (.vw 3 1 0 0))), (2, kF), (13, vLs l), (14, vI (l.length : Nat)), (15, vI (k : Nat))] [some (tlB 0 0 2 (psK m l [] [] k)), none, some rwP, some (arP (arK m l [] k))]) (fun k => k ≤ l.length) (fun k => l.length - k) 0 (Nat.zero_le _) (by rw [if_pos rfl]; exact cov_intro [0, 1, 7, 2] (by simp -implicitDefEqProofs [psK, flatK]) (by simp -implicitDefEqProofs [psK, flatK]) (by decide) rfl (by simp)) (fun Z hI k hk => ?_)
    have hfl := flat_len' (f := ptsD m) (l := l) (fun u _ => pts_len m u) k hk
    have hpk : (psK m l [] [] k).length = 1 + (flatK (ptsD m) l k).length := by unfold psK; simp; omega
    by_cases hkl : k < l.length; rotate_left
    · have hke : k = l.length := by omega
      subst hke
      have hk0 : ¬ l.length = 0 := by omega
      rw [if_neg hk0]
      have e1 : finF (m + 1) (.mk x l) [] = arK m l [] l.length := by
        unfold arK
        rw [finF]
        obtain ⟨u, hu⟩ : ∃ u, l[l.length - 1]? = some u := ⟨_, List.getElem?_eq_getElem (by omega)⟩
        rw [hu]
        dsimp only
        rw [show ((l.length - 1 : Nat) : Int) = (l.length : Int) - 1 by omega]
      have e2 : ptsD (m + 1) (.mk x l) = psK m l [] [] l.length := by
        unfold psK; rw [ptsD]; simp
      rw [e1, e2]
      repeat (first | refine aw_seq ?_ | refine aw_skip ?_ | refine aw_block ?_ | refine aw_exit ?_ | refine aw_cond rfl (fun _ => ?_) (fun hb => absurd hb (by decide)) | refine aw_cond rfl (fun hb => absurd hb (by decide)) (fun _ => ?_) | (refine aw_reg (fun K hK => ?_); simp -implicitDefEqProofs; refine hK _ ?_) | (refine aw_drw mixd (fun K hK => ?_); simp -implicitDefEqProofs; refine hK _ _ (by rfl) ?_) | fail)
      refine aw_ret (fin_g [0, 1, 2, 3] ?_); simp -implicitDefEqProofs [FinG, resV, resT] <;> try rfl
    obtain ⟨⟨ux, ul⟩, hu⟩ : ∃ a, l[k]? = some a := ⟨_, List.getElem?_eq_getElem hkl⟩
    have hu' := (List.getElem?_eq_some_iff.1 hu).2
    have hss := sum_succ hu
    have hst := sum_take l (k + 1)
    have husz : (Tr.mk ux ul).size < (Tr.mk x l).size := Tr.size_at hu
    have w2 : IntKind.i64.wrap ((k : Nat) + 1 : Int) = (k : Nat) + 1 := i64i _ (by omega) (by omega)
    have hpq : AllI [(k : Int)] := fun z hz => by
      rw [List.mem_singleton] at hz; omega
    have hp2 := psK_succ (m := m) (ps := []) (p := []) hu
    have ha2 := arK_succ (m := m) (p := []) hu
    rw [List.nil_append] at hp2 ha2
    by_cases hul : ul = []
    · subst hul
      have r := walkL_row 0 0 (psK m l [] [] k) [(k : Int)] ux hpq (by simp) (by omega)
      rw [pts_leaf (by have := Tr.size_pos (Tr.mk ux []); omega)] at hp2
      rw [fin_leaf] at ha2
      have hp3 : psK m l [] [] (k + 1) = psK m l [] [] k ++ [[(k : Int)]] := by rw [hp2]; simp
      simp only [List.length_cons, List.length_nil] at r
      by_cases hk0 : k = 0
      · rw [if_pos hk0]
        repeat' (first | refine aw_seq ?_ | refine aw_skip ?_ | refine aw_block ?_ | refine aw_exit ?_ | refine aw_cond rfl (fun _ => ?_) (fun hb => absurd hb (by decide)) | refine aw_cond rfl (fun hb => absurd hb (by decide)) (fun _ => ?_) | (refine aw_reg (fun K hK => ?_); simp -implicitDefEqProofs [hkl, hu, hu', w2]) | (refine aw_drw mixd (fun K hK => ?_); simp -implicitDefEqProofs [hkl, hu, hu', w2]) | refine hK _ ?_ | refine hK _ _ (by rfl) ?_ | (refine ar_call (cg r [0,43,2] ?_); simp -implicitDefEqProofs [hkl, hu, hu', w2]) | (refine ard_call (dg r [0,43,2] ?_); simp -implicitDefEqProofs [hkl, hu, hu', w2]) | fail)
        refine ⟨k + 1, (by dsimp only; omega), (by dsimp only; omega), ?_⟩
        rw [hI, if_neg (Nat.succ_ne_zero k), hp3, ha2]
        exact cov_intro [0, 1, 59, 43] (by simp -implicitDefEqProofs) (by simp -implicitDefEqProofs) (by decide) rfl (by simp)
      · rw [if_neg hk0]
        generalize arK m l [] k = q
        repeat' (first | refine aw_seq ?_ | refine aw_skip ?_ | refine aw_block ?_ | refine aw_exit ?_ | refine aw_cond rfl (fun _ => ?_) (fun hb => absurd hb (by decide)) | refine aw_cond rfl (fun hb => absurd hb (by decide)) (fun _ => ?_) | (refine aw_reg (fun K hK => ?_); simp -implicitDefEqProofs [hkl, hu, hu', w2]) | (refine aw_drw mixd (fun K hK => ?_); simp -implicitDefEqProofs [hkl, hu, hu', w2]) | refine hK _ ?_ | refine hK _ _ (by rfl) ?_ | (refine ar_call (cg r [0,43,2] ?_); simp -implicitDefEqProofs [hkl, hu, hu', w2]) | (refine ard_call (dg r [0,43,2] ?_); simp -implicitDefEqProofs [hkl, hu, hu', w2]) | fail)
        refine ⟨k + 1, (by dsimp only; omega), (by dsimp only; omega), ?_⟩
        rw [hI, if_neg (Nat.succ_ne_zero k), hp3, ha2]
        exact cov_intro [0, 1, 59, 43] (by simp -implicitDefEqProofs) (by simp -implicitDefEqProofs) (by decide) rfl (by simp)
    · have r := walk_row m ux ul (by omega) hul [(k : Int)] 0 0 (psK m l [] [] k) hpq (by simp; omega) (by omega)
      rw [← hp2, ← ha2] at r
      simp only [List.length_cons, List.length_nil] at r
      by_cases hk0 : k = 0
      · rw [if_pos hk0]
        repeat' (first | refine aw_seq ?_ | refine aw_skip ?_ | refine aw_block ?_ | refine aw_exit ?_ | refine aw_cond rfl (fun _ => ?_) (fun hb => absurd hb (by decide)) | refine aw_cond rfl (fun hb => absurd hb (by decide)) (fun _ => ?_) | (refine aw_reg (fun K hK => ?_); simp -implicitDefEqProofs [hkl, hu, hu', w2]) | (refine aw_drw mixd (fun K hK => ?_); simp -implicitDefEqProofs [hkl, hu, hu', w2]) | refine hK _ ?_ | refine hK _ _ (by rfl) ?_ | (refine ar_call (cg r [0,43,2] ?_); simp -implicitDefEqProofs [hkl, hu, hu', w2]) | (refine ard_call (dg r [0,43,2] ?_); simp -implicitDefEqProofs [hkl, hu, hu', w2]) | fail)
        refine ⟨k + 1, (by dsimp only; omega), (by dsimp only; omega), ?_⟩
        rw [hI, if_neg (Nat.succ_ne_zero k)]
        exact cov_intro [0, 1, 59, 60] (by simp -implicitDefEqProofs) (by simp -implicitDefEqProofs) (by decide) rfl (by simp)
      · rw [if_neg hk0]
        generalize arK m l [] k = q
        repeat' (first | refine aw_seq ?_ | refine aw_skip ?_ | refine aw_block ?_ | refine aw_exit ?_ | refine aw_cond rfl (fun _ => ?_) (fun hb => absurd hb (by decide)) | refine aw_cond rfl (fun hb => absurd hb (by decide)) (fun _ => ?_) | (refine aw_reg (fun K hK => ?_); simp -implicitDefEqProofs [hkl, hu, hu', w2]) | (refine aw_drw mixd (fun K hK => ?_); simp -implicitDefEqProofs [hkl, hu, hu', w2]) | refine hK _ ?_ | refine hK _ _ (by rfl) ?_ | (refine ar_call (cg r [0,43,2] ?_); simp -implicitDefEqProofs [hkl, hu, hu', w2]) | (refine ard_call (dg r [0,43,2] ?_); simp -implicitDefEqProofs [hkl, hu, hu', w2]) | fail)
        refine ⟨k + 1, (by dsimp only; omega), (by dsimp only; omega), ?_⟩
        rw [hI, if_neg (Nat.succ_ne_zero k)]
        exact cov_intro [0, 1, 59, 60] (by simp -implicitDefEqProofs) (by simp -implicitDefEqProofs) (by decide) rfl (by simp)
set_option maxRecDepth 100000 in
set_option maxHeartbeats 4000000 in
theorem paths_row (x : Lab) (l : List VT) (hs : (Tr.mk x l).size ≤ 900000) : Row Try.prog 32 [vT (.mk x l)] [] (vPs' (ptsD (Tr.mk x l).size (.mk x l))) [] := by
  have hpos := Tr.size_pos (.mk x l)
  by_cases hl : l = []
  · subst hl
    rw [pts_leaf hpos]
    have e := walk0L_row x
    refine row_of Try.func32 rfl rfl (Nat.le_of_ble_eq_true rfl) ?_
    repeat (first | refine aw_seq ?_ | refine aw_skip ?_ | refine aw_block ?_ | refine aw_exit ?_ | refine aw_cond rfl (fun _ => ?_) (fun hb => absurd hb (by decide)) | refine aw_cond rfl (fun hb => absurd hb (by decide)) (fun _ => ?_) | (refine aw_reg (fun K hK => ?_); simp -implicitDefEqProofs; refine hK _ ?_) | (refine aw_drw mixd (fun K hK => ?_); simp -implicitDefEqProofs; refine hK _ _ (by rfl) ?_) | fail)
    refine aw_nilc 2 2 [.pv (I 0), .pv (I 0), .pv .nilS] 30 1 rfl rfl (by simp) ?_
    simp [St.nilc]
    repeat' (first | refine aw_seq ?_ | refine aw_skip ?_ | refine aw_block ?_ | refine aw_exit ?_ | refine aw_cond rfl (fun _ => ?_) (fun hb => absurd hb (by decide)) | refine aw_cond rfl (fun hb => absurd hb (by decide)) (fun _ => ?_) | (refine aw_reg (fun K hK => ?_); simp -implicitDefEqProofs) | (refine aw_drw mixd (fun K hK => ?_); simp -implicitDefEqProofs) | refine hK _ ?_ | refine hK _ _ (by rfl) ?_ | (refine ar_call (cg e [2,3] ?_); simp -implicitDefEqProofs) | (refine ard_call (dg e [2,3] ?_); simp -implicitDefEqProofs) | fail)
    refine aw_ret (fin_ret ?_); simp -implicitDefEqProofs [FinP, resV, resT] <;> try rfl
  · have e := walk0_row _ x l (Nat.le_refl _) hl hs
    generalize ptsD (Tr.mk x l).size (Tr.mk x l) = Q at e ⊢
    refine row_of Try.func32 rfl rfl (Nat.le_of_ble_eq_true rfl) ?_
    repeat (first | refine aw_seq ?_ | refine aw_skip ?_ | refine aw_block ?_ | refine aw_exit ?_ | refine aw_cond rfl (fun _ => ?_) (fun hb => absurd hb (by decide)) | refine aw_cond rfl (fun hb => absurd hb (by decide)) (fun _ => ?_) | (refine aw_reg (fun K hK => ?_); simp -implicitDefEqProofs; refine hK _ ?_) | (refine aw_drw mixd (fun K hK => ?_); simp -implicitDefEqProofs; refine hK _ _ (by rfl) ?_) | fail)
    refine aw_nilc 2 2 [.pv (I 0), .pv (I 0), .pv .nilS] 30 1 rfl rfl (by simp) ?_
    simp [St.nilc]
    repeat' (first | refine aw_seq ?_ | refine aw_skip ?_ | refine aw_block ?_ | refine aw_exit ?_ | refine aw_cond rfl (fun _ => ?_) (fun hb => absurd hb (by decide)) | refine aw_cond rfl (fun hb => absurd hb (by decide)) (fun _ => ?_) | (refine aw_reg (fun K hK => ?_); simp -implicitDefEqProofs) | (refine aw_drw mixd (fun K hK => ?_); simp -implicitDefEqProofs) | refine hK _ ?_ | refine hK _ _ (by rfl) ?_ | (refine ar_call (cg e [2,3] ?_); simp -implicitDefEqProofs) | (refine ard_call (dg e [2,3] ?_); simp -implicitDefEqProofs) | fail)
    refine aw_ret (fin_ret ?_); simp -implicitDefEqProofs [FinP, resV, resT] <;> try rfl
end Go.Proofs.Ytlkggpjdaaglmaa.am
end
section
namespace Go.Proofs.Ytlkggpjdaaglmaa.vt
open Go.Proofs.Ytlkggpjdaaglmaa.am
set_option linter.unusedVariables false
structure Tok where
  k : Int
  n : Int
  s : ByteArray
  f : Int
  t : Int
def kc (x : Tok) : List PV := [I x.k, I x.n, Sx x.s, I x.f, I x.t]
abbrev vK (x : Tok) : AV := .v (.agg [.pv (I x.k), .pv (I x.n), .pv (Sx x.s), .pv (I x.f), .pv (I x.t)])
abbrev vKs (l : List Tok) : AV := .v (.c (.pv (.sl 5 (l.map kc))))
def endK : Tok := ⟨5, 0, ⟨#[]⟩, 0, 0⟩
def nxt (ts : List Tok) (i : Nat) : Tok := match ts[i]? with | some x => x | none => endK
theorem nxt_some {ts : List Tok} {i : Nat} {x : Tok} (h : ts[i]? = some x) : nxt ts i = x := by unfold nxt; rw [h]
theorem nxt_none {ts : List Tok} {i : Nat} (h : ts.length ≤ i) : nxt ts i = endK := by unfold nxt; rw [List.getElem?_eq_none h]
def quo (s : ByteArray) : Int := match s.data.toList with | c :: _ => if 97 ≤ c.toNat ∧ c.toNat ≤ 122 then 3 else 4 | [] => 4
def isK (s : ByteArray) (x : Tok) : Bool := decide (x.k = quo s) && decide (x.s = s)
theorem quo_34 (s : ByteArray) : quo s = 3 ∨ quo s = 4 := by
  unfold quo; split
  · split
    · exact .inl rfl
    · exact .inr rfl
  · exact .inr rfl
theorem isK_end (s : ByteArray) : isK s endK = false := by
  unfold isK endK
  rcases quo_34 s with h | h <;> rw [h] <;> rfl
theorem isK_at {s : ByteArray} {ts : List Tok} {i : Nat} (h : isK s (nxt ts i) = true) : ∃ x, ts[i]? = some x ∧ isK s x = true := by
  unfold nxt at h
  cases hx : ts[i]? with
  | none => rw [hx] at h; dsimp only at h; rw [isK_end] at h; cases h
  | some x => rw [hx] at h; exact ⟨x, rfl, h⟩
def frT (ts : List Tok) (i : Nat) : Int := (nxt ts i).f
def toT (ts : List Tok) (i : Nat) : Int := (nxt ts i).t
abbrev wInt : ByteArray := ⟨#[105, 110, 116]⟩
abbrev wBool : ByteArray := ⟨#[98, 111, 111, 108]⟩
abbrev sOpen : ByteArray := ⟨#[91]⟩
abbrev sShut : ByteArray := ⟨#[93]⟩
def z0 : VT := .mk ⟨0, 0, ⟨#[]⟩, 0, 0⟩ []
def tyG (ts : List Tok) : Nat → Nat → VT × Nat × Int
  | 0, i => (z0, i, 6)
  | n + 1, i =>
    if isK wInt (nxt ts i) = true then (.mk ⟨1, 0, ⟨#[]⟩, frT ts i, toT ts i⟩ [], i + 1, 0)
    else if isK wBool (nxt ts i) = true then (.mk ⟨2, 0, ⟨#[]⟩, frT ts i, toT ts i⟩ [], i + 1, 0)
    else if isK sOpen (nxt ts i) = true then
      if (nxt ts (i + 1)).k = 2 then
        if isK sShut (nxt ts (i + 2)) = true then
          if (tyG ts n (i + 3)).2.2 = 0 then (.mk ⟨3, (nxt ts (i + 1)).n, ⟨#[]⟩, frT ts i, toT ts ((tyG ts n (i + 3)).2.1 - 1)⟩ [(tyG ts n (i + 3)).1], (tyG ts n (i + 3)).2.1, 0)
          else tyG ts n (i + 3)
        else (z0, i + 2, 6)
      else (z0, i + 1, 6)
    else if (nxt ts i).k = 1 then (.mk ⟨4, 0, (nxt ts i).s, frT ts i, toT ts i⟩ [], i + 1, 0)
    else (z0, i, 6)
theorem tyG_ok (ts : List Tok) : ∀ n i, ((tyG ts n i).2.2 = 0 → i < (tyG ts n i).2.1 ∧ (tyG ts n i).2.1 ≤ ts.length) ∧ ((tyG ts n i).2.2 ≠ 0 → (tyG ts n i).2.2 = 6 ∧ (tyG ts n i).1 = z0) ∧ (i ≤ ts.length → (tyG ts n i).2.1 ≤ ts.length) ∧ (tyG ts n i).1.size ≤ n + 1 := by
  have hlt : ∀ {s : ByteArray} {i : Nat}, isK s (nxt ts i) = true → i < ts.length := fun {s i} h => by
    obtain ⟨x, h1, _⟩ := isK_at h
    exact (List.getElem?_eq_some_iff.1 h1).1
  have hlk : ∀ {k : Int} {i : Nat}, (nxt ts i).k = k → k ≠ 5 → i < ts.length := fun {k i} h hk => by
    rcases Nat.lt_or_ge i ts.length with h1 | h1
    · exact h1
    · rw [nxt_none h1] at h; exact absurd h.symm hk
  intro n
  induction n with
  | zero => intro i; simp [tyG, z0, Tr.size_mk]
  | succ n ih =>
    intro i
    unfold tyG
    split
    · rename_i h; have := hlt h; simp [Tr.size_mk]; omega
    · split
      · rename_i h; have := hlt h; simp [Tr.size_mk]; omega
      · split
        · rename_i h0
          have h0 := hlt h0
          split
          · rename_i h1
            have h1 := hlk h1 (by omega)
            split
            · rename_i h2
              have h2 := hlt h2
              obtain ⟨a1, a2, a3, a4⟩ := ih (i + 3)
              split
              · rename_i h3
                have := a1 h3
                simp [Tr.size_mk]; omega
              · rename_i h3
                exact ⟨fun h => absurd h h3, fun h => a2 h, fun h => a3 (by omega), by omega⟩
            · simp [z0, Tr.size_mk]; omega
          · simp [z0, Tr.size_mk]; omega
        · split
          · rename_i h; have := hlk h (by omega); simp [Tr.size_mk]; omega
          · simp [z0, Tr.size_mk]
end Go.Proofs.Ytlkggpjdaaglmaa.vt
end
section
namespace Go.Proofs.Ytlkggpjdaaglmaa.am
open Go.ChangeShapes Go.WideShapes Go.ChangeAt Go.RowKit
open vt bs
set_option linter.unusedVariables false
set_option linter.unusedSimpArgs false
def atO : List Int → VT → Option VT
  | [], t => some t
  | i :: p, .mk x l => if 0 ≤ i then (match l[i.toNat]? with | some u => atO p u | none => none) else none
noncomputable abbrev vTb (r : VT × Bool) : AV := .tup [.agg (ta r.1), .c (.pv (Bo r.2))]
def atG (p : List Int) (t : VT) : VT × Bool := match atO p t with | some u => (u, true) | none => (z0, false)
theorem atO_app : ∀ (p q : List Int) (t : VT), atO (p ++ q) t = (atO p t).bind (atO q)
  | [], q, t => rfl
  | i :: p, q, .mk x l => by
    rw [List.cons_append, atO, atO]
    split
    · cases h : l[i.toNat]? with
      | none => rfl
      | some u => exact atO_app p q u
    · rfl
set_option maxRecDepth 100000 in
set_option maxHeartbeats 4000000 in
theorem at_row (p : List Int) (t : VT) (hp : p.length ≤ 1000000) : Row Try.prog 33 [vT t, vIs p] [] (vTb (atG p t)) [] := by
  obtain ⟨x0, l0⟩ := t
  refine row_of Try.func33 rfl rfl (Nat.le_of_ble_eq_true rfl) ?_
  repeat (first | refine aw_seq ?_ | refine aw_skip ?_ | refine aw_block ?_ | refine aw_exit ?_ | refine aw_cond rfl (fun _ => ?_) (fun hb => absurd hb (by decide)) | refine aw_cond rfl (fun hb => absurd hb (by decide)) (fun _ => ?_) | (refine aw_reg (fun K hK => ?_); simp -implicitDefEqProofs; refine hK _ ?_) | (refine aw_drw mixd (fun K hK => ?_); simp -implicitDefEqProofs; refine hK _ _ (by rfl) ?_) | fail)
  refine aw_lp (ι := Nat × VT) (fun s => mkSt [(2, .v (.c (.ptr 0 0))), (4, .v (.c (.ptr 1 0))), (8, vIs p), (9, vI (p.length : Nat)), (10, vI (s.1 : Nat))] [some (.box (ta s.2)), some (.box [.pv (I 0), .pv (I 0), .pv (Sx ⟨#[]⟩), .pv .nilS, .pv (I 0), .pv (I 0)])]) (fun s => s.1 ≤ p.length ∧ atO (p.drop s.1) s.2 = atO p (.mk x0 l0)) (fun s => p.length - s.1) (0, .mk x0 l0) ⟨Nat.zero_le _, rfl⟩ (cov_intro [0, 1] (by simp -implicitDefEqProofs) (by simp -implicitDefEqProofs) (by decide) rfl (by simp)) (fun Z hI s hk => ?_)
  obtain ⟨k, ⟨x, l⟩⟩ := s
  obtain ⟨hk, hz⟩ := hk
  dsimp only at hk hz ⊢
  unfold atG
  rw [← hz]
  by_cases hkl : k < p.length; rotate_left
  · have : k = p.length := by omega
    subst this
    rw [List.drop_length]
    repeat (first | refine aw_seq ?_ | refine aw_skip ?_ | refine aw_block ?_ | refine aw_exit ?_ | refine aw_cond rfl (fun _ => ?_) (fun hb => absurd hb (by decide)) | refine aw_cond rfl (fun hb => absurd hb (by decide)) (fun _ => ?_) | (refine aw_reg (fun K hK => ?_); simp -implicitDefEqProofs; refine hK _ ?_) | (refine aw_drw mixd (fun K hK => ?_); simp -implicitDefEqProofs; refine hK _ _ (by rfl) ?_) | fail)
    refine aw_ret (fin_ret ?_); simp -implicitDefEqProofs [FinP, resV, resT, atO] <;> try rfl
  obtain ⟨i, hi⟩ : ∃ a, p[k]? = some a := ⟨_, List.getElem?_eq_getElem hkl⟩
  have hi' := (List.getElem?_eq_some_iff.1 hi).2
  have w2 : IntKind.i64.wrap ((k : Nat) + 1 : Int) = (k : Nat) + 1 := i64i _ (by omega) (by omega)
  have hd : p.drop k = i :: p.drop (k + 1) := by rw [List.drop_eq_getElem_cons hkl, hi']
  rw [hd] at hz ⊢
  by_cases h0 : i < 0
  · have h0' : ¬ 0 ≤ i := by omega
    have e : atO (i :: p.drop (k + 1)) (.mk x l) = none := by rw [atO, if_neg h0']
    rw [e]
    repeat (first | refine aw_seq ?_ | refine aw_skip ?_ | refine aw_block ?_ | refine aw_exit ?_ | refine aw_cond rfl (fun _ => ?_) (fun hb => absurd hb (by decide)) | refine aw_cond rfl (fun hb => absurd hb (by decide)) (fun _ => ?_) | (refine aw_reg (fun K hK => ?_); simp -implicitDefEqProofs [hkl, hi, hi', h0]; refine hK _ ?_) | (refine aw_drw mixd (fun K hK => ?_); simp -implicitDefEqProofs [hkl, hi, hi', h0]; refine hK _ _ (by rfl) ?_) | fail)
    refine aw_ret (fin_ret ?_); simp -implicitDefEqProofs [FinP, resV, resT, z0] <;> try rfl
  have h0' : 0 ≤ i := by omega
  by_cases h1 : (l.length : Int) ≤ i
  · have e : atO (i :: p.drop (k + 1)) (.mk x l) = none := by
      rw [atO, if_pos h0', List.getElem?_eq_none (by omega)]
    rw [e]
    repeat (first | refine aw_seq ?_ | refine aw_skip ?_ | refine aw_block ?_ | refine aw_exit ?_ | refine aw_cond rfl (fun _ => ?_) (fun hb => absurd hb (by decide)) | refine aw_cond rfl (fun hb => absurd hb (by decide)) (fun _ => ?_) | (refine aw_reg (fun K hK => ?_); simp -implicitDefEqProofs [hkl, hi, hi', h0, h1]; refine hK _ ?_) | (refine aw_drw mixd (fun K hK => ?_); simp -implicitDefEqProofs [hkl, hi, hi', h0, h1]; refine hK _ _ (by rfl) ?_) | fail)
    refine aw_ret (fin_ret ?_); simp -implicitDefEqProofs [FinP, resV, resT, z0] <;> try rfl
  have h2 : i.toNat < l.length := by omega
  obtain ⟨⟨ux, ul⟩, hu⟩ : ∃ a, l[i.toNat]? = some a := ⟨_, List.getElem?_eq_getElem h2⟩
  have hu' := (List.getElem?_eq_some_iff.1 hu).2
  have h3 : i < l.length := by omega
  have e : atO (i :: p.drop (k + 1)) (.mk x l) = atO (p.drop (k + 1)) (.mk ux ul) := by rw [atO, if_pos h0', hu]
  repeat (first | refine aw_seq ?_ | refine aw_skip ?_ | refine aw_block ?_ | refine aw_exit ?_ | refine aw_cond rfl (fun _ => ?_) (fun hb => absurd hb (by decide)) | refine aw_cond rfl (fun hb => absurd hb (by decide)) (fun _ => ?_) | (refine aw_reg (fun K hK => ?_); simp -implicitDefEqProofs [hkl, hi, hi', h0, h0', h1, h2, h3, hu, hu', w2]; refine hK _ ?_) | (refine aw_drw mixd (fun K hK => ?_); simp -implicitDefEqProofs [hkl, hi, hi', h0, h0', h1, h2, h3, hu, hu', w2]; refine hK _ _ (by rfl) ?_) | fail)
  refine ⟨(k + 1, .mk ux ul), ⟨(by show k + 1 ≤ p.length; omega), by first | exact e.symm | (rw [← e]; exact hz)⟩, (by dsimp only; omega), ?_⟩
  rw [hI]; exact cov_intro [0, 1] (by simp -implicitDefEqProofs) (by simp -implicitDefEqProofs) (by decide) rfl (by simp)
set_option maxRecDepth 100000 in
set_option maxHeartbeats 4000000 in
theorem rat_row : ∀ (p : List Int) (t u : VT), p.length ≤ 1000000 → atO p t = some u → Row Try.prog 17 [vT t, vIs p] [] (vT u) []
  | [], .mk x l, u, _, h => by
    cases h
    refine row_of Try.func17 rfl rfl (Nat.le_of_ble_eq_true rfl) ?_
    repeat (first | refine aw_seq ?_ | refine aw_skip ?_ | refine aw_block ?_ | refine aw_exit ?_ | refine aw_cond rfl (fun _ => ?_) (fun hb => absurd hb (by decide)) | refine aw_cond rfl (fun hb => absurd hb (by decide)) (fun _ => ?_) | (refine aw_reg (fun K hK => ?_); simp -implicitDefEqProofs; refine hK _ ?_) | (refine aw_drw mixd (fun K hK => ?_); simp -implicitDefEqProofs; refine hK _ _ (by rfl) ?_) | fail)
    refine aw_ret (fin_ret ?_); simp -implicitDefEqProofs [FinP, resV, resT] <;> try rfl
  | i :: p, .mk x l, u, hl, h => by
    rw [atO] at h
    by_cases h0 : 0 ≤ i
    · rw [if_pos h0] at h
      cases hu : l[i.toNat]? with
      | none => rw [hu] at h; cases h
      | some v =>
        rw [hu] at h
        have hu' := (List.getElem?_eq_some_iff.1 hu).2
        have h2 := (List.getElem?_eq_some_iff.1 hu).1
        have h3 : i < l.length := by omega
        have e := rat_row p v u (by simp at hl; omega) h
        obtain ⟨vx, vl⟩ := v
        have hz : ¬ (p.length : Int) + 1 = 0 := by omega
        have hz2 : (1 : Int) ≤ (p.length : Int) + 1 := by omega
        refine row_of Try.func17 rfl rfl (Nat.le_of_ble_eq_true rfl) ?_
        repeat' (first | refine aw_seq ?_ | refine aw_skip ?_ | refine aw_block ?_ | refine aw_exit ?_ | refine aw_cond rfl (fun _ => ?_) (fun hb => absurd hb (by decide)) | refine aw_cond rfl (fun hb => absurd hb (by decide)) (fun _ => ?_) | (refine aw_reg (fun K hK => ?_); simp -implicitDefEqProofs [h0, h2, h3, hu, hu', hz, hz2]) | (refine aw_drw mixd (fun K hK => ?_); simp -implicitDefEqProofs [h0, h2, h3, hu, hu', hz, hz2]) | refine hK _ ?_ | refine hK _ _ (by rfl) ?_ | (refine ar_call (cp e ?_); simp -implicitDefEqProofs [h0, h2, h3, hu, hu', hz, hz2]) | (refine ard_call (dp e ?_); simp -implicitDefEqProofs [h0, h2, h3, hu, hu', hz, hz2]) | fail)
        refine aw_ret (fin_ret ?_); simp -implicitDefEqProofs [FinP, resV, resT] <;> try rfl
    · rw [if_neg h0] at h; cases h
end Go.Proofs.Ytlkggpjdaaglmaa.am
end
section
namespace Go.Proofs.Ytlkggpjdaaglmaa.am
open Go.ChangeShapes Go.WideShapes Go.ChangeAt Go.RowKit
open vt bs
set_option linter.unusedVariables false
set_option linter.unusedSimpArgs false
theorem tk_all {x y : List Int} (h : x.length = y.length) {k : Nat} (hk : x.length ≤ k) (e : x.take k = y.take k) : x = y := by
  rwa [List.take_of_length_le hk, List.take_of_length_le (by omega)] at e
theorem tk_succ {x y : List Int} {k : Nat} {a : Int} (hx : x[k]? = some a) (hy : y[k]? = some a) (e : x.take k = y.take k) : x.take (k + 1) = y.take (k + 1) := by
  rw [List.take_add_one, List.take_add_one, e, hx, hy]
theorem tk_ne {x y : List Int} {k : Nat} {a b : Int} (hx : x[k]? = some a) (hy : y[k]? = some b) (hab : a ≠ b) : decide (x = y) = false := by
  apply decide_eq_false
  intro e
  rw [e, hy] at hx
  cases hx
  exact hab rfl
set_option maxRecDepth 100000 in
set_option maxHeartbeats 4000000 in
theorem rway_row (xs ys : List Int) (h1 : xs.length ≤ 1000000) (h2 : ys.length ≤ 1000000) : Row Try.prog 14 [vIs xs, vIs ys] [] (vB (decide (xs = ys))) [] := by
  by_cases hl : xs.length = ys.length; rotate_left
  · have e : decide (xs = ys) = false := decide_eq_false (fun e => hl (by rw [e]))
    have hl' : ¬ ((xs.length : Int) = ys.length) := by omega
    refine row_of Try.func14 rfl rfl (Nat.le_of_ble_eq_true rfl) ?_
    repeat (first | refine aw_seq ?_ | refine aw_skip ?_ | refine aw_block ?_ | refine aw_exit ?_ | refine aw_cond rfl (fun _ => ?_) (fun hb => absurd hb (by decide)) | refine aw_cond rfl (fun hb => absurd hb (by decide)) (fun _ => ?_) | (refine aw_reg (fun K hK => ?_); simp -implicitDefEqProofs [hl, hl']; refine hK _ ?_) | (refine aw_drw mixd (fun K hK => ?_); simp -implicitDefEqProofs [hl, hl']; refine hK _ _ (by rfl) ?_) | fail)
    refine aw_ret (fin_ret ?_); simp -implicitDefEqProofs [FinP, resV, resT, e] <;> try rfl
  refine row_of Try.func14 rfl rfl (Nat.le_of_ble_eq_true rfl) ?_
  repeat (first | refine aw_seq ?_ | refine aw_skip ?_ | refine aw_block ?_ | refine aw_exit ?_ | refine aw_cond rfl (fun _ => ?_) (fun hb => absurd hb (by decide)) | refine aw_cond rfl (fun hb => absurd hb (by decide)) (fun _ => ?_) | (refine aw_reg (fun K hK => ?_); simp -implicitDefEqProofs [hl]; refine hK _ ?_) | (refine aw_drw mixd (fun K hK => ?_); simp -implicitDefEqProofs [hl]; refine hK _ _ (by rfl) ?_) | fail)
  refine aw_lp (ι := Nat) (fun k => mkSt [(0, vIs xs), (1, vIs ys), (5, vI (k : Nat))] []) (fun k => k ≤ xs.length ∧ xs.take k = ys.take k) (fun k => xs.length - k) 0 ⟨Nat.zero_le _, rfl⟩ (cov_intro [] (by simp -implicitDefEqProofs [hl]) (by simp -implicitDefEqProofs [hl]) (by decide) rfl (by simp)) (fun Z hI k hk => ?_)
  obtain ⟨hk, hz⟩ := hk
  by_cases hkl : k < xs.length; rotate_left
  · have e : decide (xs = ys) = true := decide_eq_true (tk_all hl (by omega) hz)
    have hkl' : ¬ k < ys.length := by omega
    repeat (first | refine aw_seq ?_ | refine aw_skip ?_ | refine aw_block ?_ | refine aw_exit ?_ | refine aw_cond rfl (fun _ => ?_) (fun hb => absurd hb (by decide)) | refine aw_cond rfl (fun hb => absurd hb (by decide)) (fun _ => ?_) | (refine aw_reg (fun K hK => ?_); simp -implicitDefEqProofs [hl, hkl, hkl']; refine hK _ ?_) | (refine aw_drw mixd (fun K hK => ?_); simp -implicitDefEqProofs [hl, hkl, hkl']; refine hK _ _ (by rfl) ?_) | fail)
    refine aw_ret (fin_ret ?_); simp -implicitDefEqProofs [FinP, resV, resT, e] <;> try rfl
  obtain ⟨a, ha⟩ : ∃ a, xs[k]? = some a := ⟨_, List.getElem?_eq_getElem hkl⟩
  have hkl' : k < ys.length := by omega
  obtain ⟨b, hb⟩ : ∃ a, ys[k]? = some a := ⟨_, List.getElem?_eq_getElem hkl'⟩
  have ha' := (List.getElem?_eq_some_iff.1 ha).2
  have hb' := (List.getElem?_eq_some_iff.1 hb).2
  have w2 : IntKind.i64.wrap ((k : Nat) + 1 : Int) = (k : Nat) + 1 := i64i _ (by omega) (by omega)
  by_cases hab : a = b
  · subst hab
    repeat (first | refine aw_seq ?_ | refine aw_skip ?_ | refine aw_block ?_ | refine aw_exit ?_ | refine aw_cond rfl (fun _ => ?_) (fun hb => absurd hb (by decide)) | refine aw_cond rfl (fun hb => absurd hb (by decide)) (fun _ => ?_) | (refine aw_reg (fun K hK => ?_); simp -implicitDefEqProofs [hl, hkl, hkl', ha, ha', hb, hb', w2]; refine hK _ ?_) | (refine aw_drw mixd (fun K hK => ?_); simp -implicitDefEqProofs [hl, hkl, hkl', ha, ha', hb, hb', w2]; refine hK _ _ (by rfl) ?_) | fail)
    refine ⟨k + 1, ⟨by omega, tk_succ ha hb hz⟩, (by dsimp only; omega), ?_⟩
    rw [hI]; exact cov_intro [] (by simp -implicitDefEqProofs) (by simp -implicitDefEqProofs) (by decide) rfl (by simp)
  · have e := tk_ne ha hb hab
    repeat (first | refine aw_seq ?_ | refine aw_skip ?_ | refine aw_block ?_ | refine aw_exit ?_ | refine aw_cond rfl (fun _ => ?_) (fun hb => absurd hb (by decide)) | refine aw_cond rfl (fun hb => absurd hb (by decide)) (fun _ => ?_) | (refine aw_reg (fun K hK => ?_); simp -implicitDefEqProofs [hl, hkl, hkl', ha, ha', hb, hb', w2, hab]; refine hK _ ?_) | (refine aw_drw mixd (fun K hK => ?_); simp -implicitDefEqProofs [hl, hkl, hkl', ha, ha', hb, hb', w2, hab]; refine hK _ _ (by rfl) ?_) | fail)
    refine aw_ret (fin_ret ?_); simp -implicitDefEqProofs [FinP, resV, resT, e] <;> try rfl
theorem flat_mem {f : VT → List (List Int)} {l : List VT} {q : List Int} : ∀ k, q ∈ flatK f l k → ∃ (j : Nat) (u : VT) (r : List Int), l[j]? = some u ∧ r ∈ f u ∧ q = (j : Int) :: r
  | 0, h => by cases h
  | k + 1, h => by
    rw [flatK] at h
    rcases List.mem_append.1 h with h | h
    · exact flat_mem k h
    · cases hu : l[k]? with
      | none => rw [hu] at h; cases h
      | some u =>
        rw [hu] at h
        obtain ⟨r, hr, rfl⟩ := List.mem_map.1 h
        exact ⟨k, u, r, hu, hr, rfl⟩
theorem pts_deep : ∀ (n : Nat) (t : VT) (q : List Int), q ∈ ptsD n t → q.length ≤ n
  | 0, t, q, h => by cases h
  | n + 1, .mk x l, q, h => by
    rw [ptsD] at h
    rcases List.mem_cons.1 h with rfl | h
    · exact Nat.zero_le _
    · obtain ⟨j, u, r, _, hr, rfl⟩ := flat_mem _ h
      have := pts_deep n u r hr
      simp; omega
set_option maxRecDepth 100000 in
set_option maxHeartbeats 4000000 in
theorem rpaths_row : ∀ (n : Nat) (x : Lab) (l : List VT), (Tr.mk x l).size ≤ n → n ≤ 900000 → Row Try.prog 15 [vT (.mk x l)] [] (vPs' (ptsD n (.mk x l))) [] := by
  intro n
  induction n with
  | zero => intro x l h; have := Tr.size_pos (.mk x l); omega
  | succ m ih =>
    intro x l hsz hnb
    have hln : l.length < (Tr.mk x l).size := Tr.len_size
    have hS := Tr.size_mk x l
    refine row_of Try.func15 rfl rfl (Nat.le_of_ble_eq_true rfl) ?_
    repeat (first | refine aw_seq ?_ | refine aw_skip ?_ | refine aw_block ?_ | refine aw_exit ?_ | refine aw_cond rfl (fun _ => ?_) (fun hb => absurd hb (by decide)) | refine aw_cond rfl (fun hb => absurd hb (by decide)) (fun _ => ?_) | (refine aw_reg (fun K hK => ?_); simp -implicitDefEqProofs; refine hK _ ?_) | (refine aw_drw mixd (fun K hK => ?_); simp -implicitDefEqProofs; refine hK _ _ (by rfl) ?_) | fail)
    refine aw_lp (ι := Nat) (fun k => mkSt [(1, .v (.c (.ptr 0 0))), (3, .v (.c (.row 1 1 (([] :: flatK (ptsD m) l k).map pcc')))), (4, vI (k : Nat))] [some (.box (ta (.mk x l))), some rwP]) (fun k => k ≤ l.length) (fun k => l.length - k) 0 (Nat.zero_le _) (cov_intro [0, 3] (by simp -implicitDefEqProofs [flatK]) (by simp -implicitDefEqProofs [flatK]) (by decide) rfl (by simp)) (fun Z hI k hk => ?_)
    have hfl := flat_len' (f := ptsD m) (l := l) (fun u _ => pts_len m u) k hk
    by_cases hkl : k < l.length; rotate_left
    · have hke : k = l.length := by omega
      subst hke
      repeat (first | refine aw_seq ?_ | refine aw_skip ?_ | refine aw_block ?_ | refine aw_exit ?_ | refine aw_cond rfl (fun _ => ?_) (fun hb => absurd hb (by decide)) | refine aw_cond rfl (fun hb => absurd hb (by decide)) (fun _ => ?_) | (refine aw_reg (fun K hK => ?_); simp -implicitDefEqProofs; refine hK _ ?_) | (refine aw_drw mixd (fun K hK => ?_); simp -implicitDefEqProofs; refine hK _ _ (by rfl) ?_) | fail)
      refine aw_ret (fin_ret ?_); simp -implicitDefEqProofs [FinP, resV, resT, ptsD] <;> try rfl
    obtain ⟨⟨ux, ul⟩, hu⟩ : ∃ a, l[k]? = some a := ⟨_, List.getElem?_eq_getElem hkl⟩
    have hu' := (List.getElem?_eq_some_iff.1 hu).2
    have hss := sum_succ hu
    have hst := sum_take l (k + 1)
    have husz : (Tr.mk ux ul).size < (Tr.mk x l).size := Tr.size_at hu
    have w2 : IntKind.i64.wrap ((k : Nat) + 1 : Int) = (k : Nat) + 1 := i64i _ (by omega) (by omega)
    have e := ih ux ul (by omega) (by omega)
    have hql := pts_len m (.mk ux ul)
    have hdp := fun q hq => pts_deep m (.mk ux ul) q hq
    have hfs : flatK (ptsD m) l (k + 1) = flatK (ptsD m) l k ++ (ptsD m (.mk ux ul)).map ((k : Int) :: ·) := by rw [flatK, hu]
    generalize ptsD m (.mk ux ul) = Q at e hql hfs hdp
    repeat' (first | refine aw_seq ?_ | refine aw_skip ?_ | refine aw_block ?_ | refine aw_exit ?_ | refine aw_cond rfl (fun _ => ?_) (fun hb => absurd hb (by decide)) | refine aw_cond rfl (fun hb => absurd hb (by decide)) (fun _ => ?_) | (refine aw_reg (fun K hK => ?_); simp -implicitDefEqProofs [hkl, hu, hu', w2]) | (refine aw_drw mixd (fun K hK => ?_); simp -implicitDefEqProofs [hkl, hu, hu', w2]) | refine hK _ ?_ | refine hK _ _ (by rfl) ?_ | (refine ar_call (cp e ?_); simp -implicitDefEqProofs [hkl, hu, hu', w2]) | (refine ard_call (dp e ?_); simp -implicitDefEqProofs [hkl, hu, hu', w2]) | fail)
    refine aw_lp (ι := Nat) (fun j => mkSt [(1, .v (.c (.ptr 0 0))), (3, .v (.c (.row 1 1 (([] :: flatK (ptsD m) l k ++ (Q.take j).map ((k : Int) :: ·)).map pcc')))), (4, vI (k : Nat)), (5, vPs' Q), (6, vI (j : Nat))] [some (.box (ta (.mk x l))), some rwP]) (fun j => j ≤ Q.length) (fun j => Q.length - j) 0 (Nat.zero_le _) (cov_intro [0, 1] (by simp -implicitDefEqProofs) (by simp -implicitDefEqProofs) (by decide) rfl (by simp)) (fun Z' hI' j hj => ?_)
    by_cases hjl : j < Q.length; rotate_left
    · have hje : j = Q.length := by omega
      subst hje
      rw [List.take_length]
      repeat (first | refine aw_seq ?_ | refine aw_skip ?_ | refine aw_block ?_ | refine aw_exit ?_ | refine aw_cond rfl (fun _ => ?_) (fun hb => absurd hb (by decide)) | refine aw_cond rfl (fun hb => absurd hb (by decide)) (fun _ => ?_) | (refine aw_reg (fun K hK => ?_); simp -implicitDefEqProofs [hjl, w2]; refine hK _ ?_) | (refine aw_drw mixd (fun K hK => ?_); simp -implicitDefEqProofs [hjl, w2]; refine hK _ _ (by rfl) ?_) | fail)
      refine ⟨k + 1, (by dsimp only; omega), (by dsimp only; omega), ?_⟩
      rw [hI, hfs]; exact cov_intro [0, 1] (by simp -implicitDefEqProofs) (by simp -implicitDefEqProofs) (by decide) rfl (by simp)
    obtain ⟨q, hq⟩ : ∃ a, Q[j]? = some a := ⟨_, List.getElem?_eq_getElem hjl⟩
    have hq' := (List.getElem?_eq_some_iff.1 hq).2
    have hqd := hdp q (List.mem_of_getElem? hq)
    have w3 : IntKind.i64.wrap ((j : Nat) + 1 : Int) = (j : Nat) + 1 := i64i _ (by omega) (by omega)
    have htk : Q.take (j + 1) = Q.take j ++ [q] := by rw [List.take_add_one, hq]; rfl
    have htl : (Q.take j).length = j := by rw [List.length_take]; omega
    generalize Q.take j = Qj at htk htl ⊢
    have b1 : (1 + q.length) * 8 ≤ 140737488355328 := by omega
    have b2 : 1 + q.length ≤ 140737488355328 := by omega
    generalize flatK (ptsD m) l k = F at hfl hfs hI' ⊢
    have b3 : (F.length + Qj.length + 1 + 1) * 24 ≤ 140737488355328 := by omega
    have b4 : F.length + Qj.length + 1 + 1 ≤ 140737488355328 := by omega
    repeat (first | refine aw_seq ?_ | refine aw_skip ?_ | refine aw_block ?_ | refine aw_exit ?_ | refine aw_cond rfl (fun _ => ?_) (fun hb => absurd hb (by decide)) | refine aw_cond rfl (fun hb => absurd hb (by decide)) (fun _ => ?_) | (refine aw_reg (fun K hK => ?_); simp -implicitDefEqProofs [hjl, hq, hq', w3, b1, b2, b3, b4]; refine hK _ ?_) | (refine aw_drw mixd (fun K hK => ?_); simp -implicitDefEqProofs [hjl, hq, hq', w3, b1, b2, b3, b4]; refine hK _ _ (by rfl) ?_) | fail)
    refine ⟨j + 1, (by dsimp only; omega), (by dsimp only; omega), ?_⟩
    rw [hI', htk]; exact cov_intro [0, 15] (by simp -implicitDefEqProofs) (by simp -implicitDefEqProofs) (by decide) rfl (by simp)
end Go.Proofs.Ytlkggpjdaaglmaa.am
end
section
namespace Go.Proofs.Ytlkggpjdaaglmaa.am
open Go.ChangeShapes Go.WideShapes Go.ChangeAt Go.RowKit
open vt bs
set_option linter.unusedVariables false
set_option linter.unusedSimpArgs false
def kdA (m : VT) (p : List Int) (n : Nat) : Int := match atO (p.take n) m with | some u => u.lab.k | none => 0
def plc (m : VT) (p : List Int) : Nat → Bool
  | 0 => false
  | n + 1 => decide (p[n]? = some 0) && (decide (kdA m p n = 22) || (decide (kdA m p n = 12) || decide (kdA m p n = 13)) && plc m p n)
theorem at_pre {p : List Int} {m t : VT} (h : atO p m = some t) (n : Nat) : ∃ x l, atO (p.take n) m = some (.mk x l) := by
  have e := atO_app (p.take n) (p.drop n) m
  rw [List.take_append_drop, h] at e
  cases hc : atO (p.take n) m with
  | none => rw [hc] at e; cases e
  | some u => obtain ⟨x, l⟩ := u; exact ⟨x, l, rfl⟩
theorem at_head {i : Int} {p : List Int} {x : Lab} {l : List VT} {t : VT} (h : atO (i :: p) (.mk x l) = some t) : 0 ≤ i ∧ i.toNat < l.length ∧ ∃ d, l[i.toNat]? = some d ∧ atO p d = some t := by
  rw [atO] at h
  by_cases h0 : 0 ≤ i
  · rw [if_pos h0] at h
    cases hd : l[i.toNat]? with
    | none => rw [hd] at h; cases h
    | some d =>
      rw [hd] at h
      exact ⟨h0, (List.getElem?_eq_some_iff.1 hd).1, d, rfl, h⟩
  · rw [if_neg h0] at h; cases h
abbrev isE (k : Int) : Bool := decide (5 ≤ k) && decide (k ≤ 19)
set_option maxRecDepth 100000 in
set_option maxHeartbeats 4000000 in
theorem isexpr_row (x : Lab) (l : List VT) : Row Try.prog 34 [vT (.mk x l)] [] (vB (isE x.k)) [] := by
  by_cases h : 5 ≤ x.k
  · refine row_of Try.func34 rfl rfl (Nat.le_of_ble_eq_true rfl) ?_
    repeat (first | refine aw_seq ?_ | refine aw_skip ?_ | refine aw_block ?_ | refine aw_exit ?_ | refine aw_cond rfl (fun _ => ?_) (fun hb => absurd hb (by decide)) | refine aw_cond rfl (fun hb => absurd hb (by decide)) (fun _ => ?_) | (refine aw_reg (fun K hK => ?_); simp -implicitDefEqProofs [h]; refine hK _ ?_) | (refine aw_drw mixd (fun K hK => ?_); simp -implicitDefEqProofs [h]; refine hK _ _ (by rfl) ?_) | fail)
    refine aw_ret (fin_ret ?_); simp -implicitDefEqProofs [FinP, resV, resT, h] <;> try rfl
  · refine row_of Try.func34 rfl rfl (Nat.le_of_ble_eq_true rfl) ?_
    repeat (first | refine aw_seq ?_ | refine aw_skip ?_ | refine aw_block ?_ | refine aw_exit ?_ | refine aw_cond rfl (fun _ => ?_) (fun hb => absurd hb (by decide)) | refine aw_cond rfl (fun hb => absurd hb (by decide)) (fun _ => ?_) | (refine aw_reg (fun K hK => ?_); simp -implicitDefEqProofs [h]; refine hK _ ?_) | (refine aw_drw mixd (fun K hK => ?_); simp -implicitDefEqProofs [h]; refine hK _ _ (by rfl) ?_) | fail)
    refine aw_ret (fin_ret ?_); simp -implicitDefEqProofs [FinP, resV, resT, h] <;> try rfl
set_option maxRecDepth 100000 in
set_option maxHeartbeats 4000000 in
theorem risexpr_row (x : Lab) (l : List VT) : Row Try.prog 36 [vT (.mk x l)] [] (vB (isE x.k)) [] := by
  by_cases h : 5 ≤ x.k
  · refine row_of Try.func36 rfl rfl (Nat.le_of_ble_eq_true rfl) ?_
    repeat (first | refine aw_seq ?_ | refine aw_skip ?_ | refine aw_block ?_ | refine aw_exit ?_ | refine aw_cond rfl (fun _ => ?_) (fun hb => absurd hb (by decide)) | refine aw_cond rfl (fun hb => absurd hb (by decide)) (fun _ => ?_) | (refine aw_reg (fun K hK => ?_); simp -implicitDefEqProofs [h]; refine hK _ ?_) | (refine aw_drw mixd (fun K hK => ?_); simp -implicitDefEqProofs [h]; refine hK _ _ (by rfl) ?_) | fail)
    refine aw_ret (fin_ret ?_); simp -implicitDefEqProofs [FinP, resV, resT, h] <;> try rfl
  · refine row_of Try.func36 rfl rfl (Nat.le_of_ble_eq_true rfl) ?_
    repeat (first | refine aw_seq ?_ | refine aw_skip ?_ | refine aw_block ?_ | refine aw_exit ?_ | refine aw_cond rfl (fun _ => ?_) (fun hb => absurd hb (by decide)) | refine aw_cond rfl (fun hb => absurd hb (by decide)) (fun _ => ?_) | (refine aw_reg (fun K hK => ?_); simp -implicitDefEqProofs [h]; refine hK _ ?_) | (refine aw_drw mixd (fun K hK => ?_); simp -implicitDefEqProofs [h]; refine hK _ _ (by rfl) ?_) | fail)
    refine aw_ret (fin_ret ?_); simp -implicitDefEqProofs [FinP, resV, resT, h] <;> try rfl
def vlP (m : VT) (p : List Int) : Bool := decide (2 ≤ p.length) && decide (kdA m p 1 = 33) && decide (p[1]? = some 2) && !plc m p p.length
set_option maxRecDepth 100000 in
set_option maxHeartbeats 4000000 in
theorem isval_row (m t : VT) (p : List Int) (hp : p.length ≤ 1000000) (h : atO p m = some t) : Row Try.prog 35 [vT m, vIs p] [] (vB (vlP m p)) [] := by
  obtain ⟨mx, ml⟩ := m
  by_cases h2 : p.length < 2
  · have e : vlP (.mk mx ml) p = false := by unfold vlP; simp; intro h; omega
    have h2' : (p.length : Int) < 2 := by omega
    rw [e]
    refine row_of Try.func35 rfl rfl (Nat.le_of_ble_eq_true rfl) ?_
    repeat (first | refine aw_seq ?_ | refine aw_skip ?_ | refine aw_block ?_ | refine aw_exit ?_ | refine aw_cond rfl (fun _ => ?_) (fun hb => absurd hb (by decide)) | refine aw_cond rfl (fun hb => absurd hb (by decide)) (fun _ => ?_) | (refine aw_reg (fun K hK => ?_); simp -implicitDefEqProofs [h2, h2']; refine hK _ ?_) | (refine aw_drw mixd (fun K hK => ?_); simp -implicitDefEqProofs [h2, h2']; refine hK _ _ (by rfl) ?_) | fail)
    refine aw_ret (fin_ret ?_); simp -implicitDefEqProofs [FinP, resV, resT] <;> try rfl
  obtain ⟨p0, p1, p', rfl⟩ : ∃ a b q, p = a :: b :: q := by
    match p, h2 with
    | a :: b :: q, _ => exact ⟨a, b, q, rfl⟩
    | [a], h => exact absurd (by simp) h
    | [], h => exact absurd (by simp) h
  obtain ⟨g0, g1, ⟨dx, dl⟩, g2, g3⟩ := at_head h
  have g2' := (List.getElem?_eq_some_iff.1 g2).2
  have g4 : p0 < ml.length := by omega
  have hk1 : kdA (.mk mx ml) (p0 :: p1 :: p') 1 = dx.k := by
    unfold kdA
    show (match atO [p0] (.mk mx ml) with | some u => u.lab.k | none => 0) = _
    rw [atO, if_pos g0, g2]; rfl
  have h2' : ¬ ((p'.length : Int) + 1 + 1 < 2) := by omega
  by_cases c1 : dx.k = 33; rotate_left
  · have e : vlP (.mk mx ml) (p0 :: p1 :: p') = false := by unfold vlP; rw [hk1]; simp [c1]
    rw [e]
    refine row_of Try.func35 rfl rfl (Nat.le_of_ble_eq_true rfl) ?_
    repeat (first | refine aw_seq ?_ | refine aw_skip ?_ | refine aw_block ?_ | refine aw_exit ?_ | refine aw_cond rfl (fun _ => ?_) (fun hb => absurd hb (by decide)) | refine aw_cond rfl (fun hb => absurd hb (by decide)) (fun _ => ?_) | (refine aw_reg (fun K hK => ?_); simp -implicitDefEqProofs [h2', g0, g1, g2, g2', g4, c1]; refine hK _ ?_) | (refine aw_drw mixd (fun K hK => ?_); simp -implicitDefEqProofs [h2', g0, g1, g2, g2', g4, c1]; refine hK _ _ (by rfl) ?_) | fail)
    refine aw_ret (fin_ret ?_); simp -implicitDefEqProofs [FinP, resV, resT] <;> try rfl
  by_cases c2 : p1 = 2; rotate_left
  · have e : vlP (.mk mx ml) (p0 :: p1 :: p') = false := by unfold vlP; simp [c2]
    rw [e]
    refine row_of Try.func35 rfl rfl (Nat.le_of_ble_eq_true rfl) ?_
    repeat (first | refine aw_seq ?_ | refine aw_skip ?_ | refine aw_block ?_ | refine aw_exit ?_ | refine aw_cond rfl (fun _ => ?_) (fun hb => absurd hb (by decide)) | refine aw_cond rfl (fun hb => absurd hb (by decide)) (fun _ => ?_) | (refine aw_reg (fun K hK => ?_); simp -implicitDefEqProofs [h2', g0, g1, g2, g2', g4, c1, c2]; refine hK _ ?_) | (refine aw_drw mixd (fun K hK => ?_); simp -implicitDefEqProofs [h2', g0, g1, g2, g2', g4, c1, c2]; refine hK _ _ (by rfl) ?_) | fail)
    refine aw_ret (fin_ret ?_); simp -implicitDefEqProofs [FinP, resV, resT] <;> try rfl
  have hkeep : vlP (.mk mx ml) (p0 :: p1 :: p') = !plc (.mk mx ml) (p0 :: p1 :: p') (p0 :: p1 :: p').length := by unfold vlP; rw [hk1]; simp [c1, c2]
  have hb2 : plc (.mk mx ml) (p0 :: p1 :: p') 2 = false := by rw [plc]; simp [c2]
  subst c2
  rw [hkeep]
  clear hkeep hk1
  have w1 : IntKind.i64.wrap ((p'.length : Int) + 1) = (p'.length : Int) + 1 := i64i _ (by simp at hp; omega) (by simp at hp; omega)
  obtain ⟨P, hP⟩ : ∃ P, P = p0 :: 2 :: p' := ⟨_, rfl⟩
  have hPm : List.map (fun z => [I z]) P = [I p0] :: [I 2] :: List.map (fun z => [I z]) p' := by rw [hP]; rfl
  have hPl : P.length = p'.length + 2 := by rw [hP]; rfl
  refine row_of Try.func35 rfl rfl (Nat.le_of_ble_eq_true rfl) ?_
  repeat (first | refine aw_seq ?_ | refine aw_skip ?_ | refine aw_block ?_ | refine aw_exit ?_ | refine aw_cond rfl (fun _ => ?_) (fun hb => absurd hb (by decide)) | refine aw_cond rfl (fun hb => absurd hb (by decide)) (fun _ => ?_) | (refine aw_reg (fun K hK => ?_); simp -implicitDefEqProofs [h2', g0, g1, g2, g2', g4, c1, w1]; refine hK _ ?_) | (refine aw_drw mixd (fun K hK => ?_); simp -implicitDefEqProofs [h2', g0, g1, g2, g2', g4, c1, w1]; refine hK _ _ (by rfl) ?_) | fail)
  refine aw_lp (ι := Nat) (fun n => mkSt [(1, vIs P), (2, .v (.c (.ptr 0 0))), (5, vI (n : Nat))] [some (.box (ta (.mk mx ml)))]) (fun n => 1 ≤ n ∧ n < P.length ∧ plc (.mk mx ml) P P.length = plc (.mk mx ml) P (n + 1)) (fun n => n) (p'.length + 1) ⟨by omega, by omega, by rw [hPl]⟩ (cov_intro [0] (by simp -implicitDefEqProofs [hPm]) (by simp -implicitDefEqProofs [hPm]) (by decide) rfl (by simp)) (fun Z hI n hk => ?_)
  obtain ⟨hn1, hn2, hn3⟩ := hk
  rw [← hP] at hb2 h hp ⊢
  rw [hn3]
  clear hPm w1 h2' g3
  by_cases c3 : 2 ≤ n; rotate_left
  · have hn : n = 1 := by omega
    subst hn
    rw [hb2]
    repeat (first | refine aw_seq ?_ | refine aw_skip ?_ | refine aw_block ?_ | refine aw_exit ?_ | refine aw_cond rfl (fun _ => ?_) (fun hb => absurd hb (by decide)) | refine aw_cond rfl (fun hb => absurd hb (by decide)) (fun _ => ?_) | (refine aw_reg (fun K hK => ?_); simp -implicitDefEqProofs; refine hK _ ?_) | (refine aw_drw mixd (fun K hK => ?_); simp -implicitDefEqProofs; refine hK _ _ (by rfl) ?_) | fail)
    refine aw_ret (fin_ret ?_); simp -implicitDefEqProofs [FinP, resV, resT] <;> try rfl
  have c3' : (2 : Int) ≤ n := by omega
  obtain ⟨a, ha⟩ : ∃ a, P[n]? = some a := ⟨_, List.getElem?_eq_getElem hn2⟩
  have ha' := (List.getElem?_eq_some_iff.1 ha).2
  obtain ⟨ux, ul, hu⟩ := at_pre h n
  have hkd : kdA (.mk mx ml) P n = ux.k := by unfold kdA; rw [hu]; rfl
  have e := at_row (P.take n) (.mk mx ml) (by rw [List.length_take]; omega)
  have eg : atG (P.take n) (.mk mx ml) = (.mk ux ul, true) := by unfold atG; rw [hu]
  rw [eg] at e
  simp only [vIs, Is, List.map_take] at e
  have hns : plc (.mk mx ml) P (n + 1) = (decide (a = 0) && (decide (ux.k = 22) || (decide (ux.k = 12) || decide (ux.k = 13)) && plc (.mk mx ml) P n)) := by
    rw [plc, hkd, ha]; simp
  have hn4 : n ≤ P.length := by omega
  have w3 : IntKind.i64.wrap ((n : Int) - 1) = ((n - 1 : Nat) : Int) := by rw [i64i _ (by omega) (by omega)]; omega
  rw [hns]
  by_cases c4 : a = 0; rotate_left
  · repeat' (first | refine aw_seq ?_ | refine aw_skip ?_ | refine aw_block ?_ | refine aw_exit ?_ | refine aw_cond rfl (fun _ => ?_) (fun hb => absurd hb (by decide)) | refine aw_cond rfl (fun hb => absurd hb (by decide)) (fun _ => ?_) | (refine aw_reg (fun K hK => ?_); simp -implicitDefEqProofs [c3', hn2, ha, ha', hn4, c4]) | (refine aw_drw mixd (fun K hK => ?_); simp -implicitDefEqProofs [c3', hn2, ha, ha', hn4, c4]) | refine hK _ ?_ | refine hK _ _ (by rfl) ?_ | (refine ar_call (cp e ?_); simp -implicitDefEqProofs [c3', hn2, ha, ha', hn4, c4]) | (refine ard_call (dp e ?_); simp -implicitDefEqProofs [c3', hn2, ha, ha', hn4, c4]) | fail)
    refine aw_ret (fin_ret ?_); simp -implicitDefEqProofs [FinP, resV, resT, c4] <;> try rfl
  by_cases c5 : ux.k = 22
  · repeat' (first | refine aw_seq ?_ | refine aw_skip ?_ | refine aw_block ?_ | refine aw_exit ?_ | refine aw_cond rfl (fun _ => ?_) (fun hb => absurd hb (by decide)) | refine aw_cond rfl (fun hb => absurd hb (by decide)) (fun _ => ?_) | (refine aw_reg (fun K hK => ?_); simp -implicitDefEqProofs [c3', hn2, ha, ha', hn4, c4, c5]) | (refine aw_drw mixd (fun K hK => ?_); simp -implicitDefEqProofs [c3', hn2, ha, ha', hn4, c4, c5]) | refine hK _ ?_ | refine hK _ _ (by rfl) ?_ | (refine ar_call (cp e ?_); simp -implicitDefEqProofs [c3', hn2, ha, ha', hn4, c4, c5]) | (refine ard_call (dp e ?_); simp -implicitDefEqProofs [c3', hn2, ha, ha', hn4, c4, c5]) | fail)
    refine aw_ret (fin_ret ?_); simp -implicitDefEqProofs [FinP, resV, resT, c4, c5] <;> try rfl
  have hnn : n - 1 + 1 = n := by omega
  by_cases c6 : ux.k = 12
  · have e9 : (decide (a = 0) && (decide (ux.k = 22) || (decide (ux.k = 12) || decide (ux.k = 13)) && plc (.mk mx ml) P n)) = plc (.mk mx ml) P (n - 1 + 1) := by rw [hnn]; simp [c4, c5, c6]
    repeat' (first | refine aw_seq ?_ | refine aw_skip ?_ | refine aw_block ?_ | refine aw_exit ?_ | refine aw_cond rfl (fun _ => ?_) (fun hb => absurd hb (by decide)) | refine aw_cond rfl (fun hb => absurd hb (by decide)) (fun _ => ?_) | (refine aw_reg (fun K hK => ?_); simp -implicitDefEqProofs [c3', hn2, ha, ha', hn4, c4, c5, c6, w3]) | (refine aw_drw mixd (fun K hK => ?_); simp -implicitDefEqProofs [c3', hn2, ha, ha', hn4, c4, c5, c6, w3]) | refine hK _ ?_ | refine hK _ _ (by rfl) ?_ | (refine ar_call (cp e ?_); simp -implicitDefEqProofs [c3', hn2, ha, ha', hn4, c4, c5, c6, w3]) | (refine ard_call (dp e ?_); simp -implicitDefEqProofs [c3', hn2, ha, ha', hn4, c4, c5, c6, w3]) | fail)
    refine ⟨n - 1, ⟨by omega, by omega, e9⟩, (by dsimp only; omega), ?_⟩
    rw [hI]; exact cov_intro [0] (by simp -implicitDefEqProofs) (by simp -implicitDefEqProofs) (by decide) rfl (by simp)
  by_cases c7 : ux.k = 13
  · have e9 : (decide (a = 0) && (decide (ux.k = 22) || (decide (ux.k = 12) || decide (ux.k = 13)) && plc (.mk mx ml) P n)) = plc (.mk mx ml) P (n - 1 + 1) := by rw [hnn]; simp [c4, c5, c7]
    repeat' (first | refine aw_seq ?_ | refine aw_skip ?_ | refine aw_block ?_ | refine aw_exit ?_ | refine aw_cond rfl (fun _ => ?_) (fun hb => absurd hb (by decide)) | refine aw_cond rfl (fun hb => absurd hb (by decide)) (fun _ => ?_) | (refine aw_reg (fun K hK => ?_); simp -implicitDefEqProofs [c3', hn2, ha, ha', hn4, c4, c5, c6, c7, w3]) | (refine aw_drw mixd (fun K hK => ?_); simp -implicitDefEqProofs [c3', hn2, ha, ha', hn4, c4, c5, c6, c7, w3]) | refine hK _ ?_ | refine hK _ _ (by rfl) ?_ | (refine ar_call (cp e ?_); simp -implicitDefEqProofs [c3', hn2, ha, ha', hn4, c4, c5, c6, c7, w3]) | (refine ard_call (dp e ?_); simp -implicitDefEqProofs [c3', hn2, ha, ha', hn4, c4, c5, c6, c7, w3]) | fail)
    refine ⟨n - 1, ⟨by omega, by omega, e9⟩, (by dsimp only; omega), ?_⟩
    rw [hI]; exact cov_intro [0] (by simp -implicitDefEqProofs) (by simp -implicitDefEqProofs) (by decide) rfl (by simp)
  · repeat' (first | refine aw_seq ?_ | refine aw_skip ?_ | refine aw_block ?_ | refine aw_exit ?_ | refine aw_cond rfl (fun _ => ?_) (fun hb => absurd hb (by decide)) | refine aw_cond rfl (fun hb => absurd hb (by decide)) (fun _ => ?_) | (refine aw_reg (fun K hK => ?_); simp -implicitDefEqProofs [c3', hn2, ha, ha', hn4, c4, c5, c6, c7]) | (refine aw_drw mixd (fun K hK => ?_); simp -implicitDefEqProofs [c3', hn2, ha, ha', hn4, c4, c5, c6, c7]) | refine hK _ ?_ | refine hK _ _ (by rfl) ?_ | (refine ar_call (cp e ?_); simp -implicitDefEqProofs [c3', hn2, ha, ha', hn4, c4, c5, c6, c7]) | (refine ard_call (dp e ?_); simp -implicitDefEqProofs [c3', hn2, ha, ha', hn4, c4, c5, c6, c7]) | fail)
    refine aw_ret (fin_ret ?_); simp -implicitDefEqProofs [FinP, resV, resT, c4, c5, c6, c7] <;> try rfl
end Go.Proofs.Ytlkggpjdaaglmaa.am
end
