import Derived.Test.YtcjagcfjpfjanaaPkD9
import Derived.Test.YtcjagcfjpfjanaaPkD4
import Derived.Test.YtcjagcfjpfjanaaPkD8
set_option maxRecDepth 100000
set_option maxHeartbeats 4000000
section
namespace Go.Proofs.Ytcjagcfjpfjanaa.am
open Go.ChangeShapes Go.WideShapes Go.ChangeAt Go.RowKit
open vt
set_option linter.unusedVariables false
set_option linter.unusedSimpArgs false
def RdvOk (d : DT) (lv : Int) : Prop := ∃ V : PV, (dEr d lv = 0 → V = .sl 1 (iC (dE d))) ∧ Row Try.prog 15 [vD d, vI lv] [] (vBE V (dEr d lv)) []
theorem rdv_bad {d : DT} {lv e : Int} (he : dEr d lv = e) (h0 : ¬ e = 0) (h : Row Try.prog 15 [vD d, vI lv] [] (vBE (.sl 1 []) e) []) : RdvOk d lv := ⟨.sl 1 [], fun h => absurd (he.symm.trans h) h0, by rw [he]; exact h⟩
theorem rdv_deep (x : DLab) (l : List DT) (lv : Int) (h1 : 64 < lv) : RdvOk (.mk x l) lv := by
  refine rdv_bad (e := 7) (by rw [dEr_mk, if_pos h1]) (by decide) ?_
  obtain ⟨ak, ap, ⟨ar, ab, asp, asn, ⟨ax, atl⟩⟩⟩ := x
  refine row_of Try.func15 rfl rfl (Nat.le_of_ble_eq_true rfl) ?_
  repeat (first | refine aw_seq ?_ | refine aw_skip ?_ | refine aw_block ?_ | refine aw_exit ?_ | refine aw_ct rfl ?_ | refine aw_cf rfl ?_ | ((first | refine aw_reg (fun K hK => ?_) | refine aw_drw mixd (fun K hK => ?_) | fail); simp -implicitDefEqProofs [h1]; first | refine hK _ ?_ | refine hK _ _ (by rfl) ?_ | fail) | fail)
  refine aw_ret (fin_ret ?_); simp -implicitDefEqProofs [FinP, resV, resT] <;> try rfl
theorem rdv_kind (x : DLab) (l : List DT) (lv : Int) (h1 : ¬ 64 < lv) (hk : ¬ kndD x.k) : RdvOk (.mk x l) lv := by
  refine rdv_bad (e := 23) (by rw [dEr_mk, if_neg h1, if_pos hk]) (by decide) ?_
  obtain ⟨ak, ap, ⟨ar, ab, asp, asn, ⟨ax, atl⟩⟩⟩ := x
  dsimp only at hk
  have q1 : ¬ ak = 1 := fun h => hk (.inl h)
  have q2 : ¬ ak = 2 := fun h => hk (.inr (.inl h))
  have q3 : ¬ ak = 3 := fun h => hk (.inr (.inr h))
  refine row_of Try.func15 rfl rfl (Nat.le_of_ble_eq_true rfl) ?_
  repeat (first | refine aw_seq ?_ | refine aw_skip ?_ | refine aw_block ?_ | refine aw_exit ?_ | refine aw_ct rfl ?_ | refine aw_cf rfl ?_ | ((first | refine aw_reg (fun K hK => ?_) | refine aw_drw mixd (fun K hK => ?_) | fail); simp -implicitDefEqProofs [h1, q1, q2, q3]; first | refine hK _ ?_ | refine hK _ _ (by rfl) ?_ | fail) | fail)
  refine aw_ret (fin_ret ?_); simp -implicitDefEqProofs [FinP, resV, resT] <;> try rfl
theorem rdv_form (x : DLab) (l : List DT) (lv : Int) (h1 : ¬ 64 < lv) (hk : kndD x.k) (ht : x.s.t.size ≤ 1000000) (hf : ¬ frmD x l.length) : RdvOk (.mk x l) lv := by
  refine rdv_bad (e := 2) (by rw [dEr_mk, if_neg h1, if_neg (fun k => k hk), if_pos hf]) (by decide) ?_
  have hba := rbare_row x.s ht
  unfold frmD at hf
  obtain ⟨c, hc⟩ : ∃ c, bareS x.s = c := ⟨_, rfl⟩
  rw [hc] at hba hf
  clear hc ht
  obtain ⟨ak, ap, ⟨ar, ab, asp, asn, ⟨ax, atl⟩⟩⟩ := x
  dsimp only at hk hf hba
  rcases hk with h | h | h
  · subst h
    by_cases g1 : 0 < ap.length
    · have g1' : ¬ ap = [] := fun h => by rw [h] at g1; exact absurd g1 (by decide)
      refine row_of Try.func15 rfl rfl (Nat.le_of_ble_eq_true rfl) ?_
      repeat (first | refine aw_seq ?_ | refine aw_skip ?_ | refine aw_block ?_ | refine aw_exit ?_ | refine aw_ct rfl ?_ | refine aw_cf rfl ?_ | ((first | refine aw_reg (fun K hK => ?_) | refine aw_drw mixd (fun K hK => ?_) | fail); simp -implicitDefEqProofs [h1, g1, g1']; first | refine hK _ ?_ | refine hK _ _ (by rfl) ?_ | fail) | fail)
      refine aw_ret (fin_ret ?_); simp -implicitDefEqProofs [FinP, resV, resT] <;> try rfl
    obtain rfl : ap = [] := List.length_eq_zero_iff.1 (by omega)
    have g2 : 0 < l.length := Nat.pos_of_ne_zero fun h => hf ⟨fun _ => rfl, fun _ => h, fun h => absurd rfl h⟩
    have g2' : ¬ l = [] := fun h => by rw [h] at g2; exact absurd g2 (by decide)
    refine row_of Try.func15 rfl rfl (Nat.le_of_ble_eq_true rfl) ?_
    repeat (first | refine aw_seq ?_ | refine aw_skip ?_ | refine aw_block ?_ | refine aw_exit ?_ | refine aw_ct rfl ?_ | refine aw_cf rfl ?_ | ((first | refine aw_reg (fun K hK => ?_) | refine aw_drw mixd (fun K hK => ?_) | fail); simp -implicitDefEqProofs [h1, g2, g2']; first | refine hK _ ?_ | refine hK _ _ (by rfl) ?_ | fail) | fail)
    refine aw_ret (fin_ret ?_); simp -implicitDefEqProofs [FinP, resV, resT] <;> try rfl
  · subst h
    by_cases g1 : 0 < ap.length
    · have g1' : ¬ ap = [] := fun h => by rw [h] at g1; exact absurd g1 (by decide)
      refine row_of Try.func15 rfl rfl (Nat.le_of_ble_eq_true rfl) ?_
      repeat (first | refine aw_seq ?_ | refine aw_skip ?_ | refine aw_block ?_ | refine aw_exit ?_ | refine aw_ct rfl ?_ | refine aw_cf rfl ?_ | ((first | refine aw_reg (fun K hK => ?_) | refine aw_drw mixd (fun K hK => ?_) | fail); simp -implicitDefEqProofs [h1, g1, g1']; first | refine hK _ ?_ | refine hK _ _ (by rfl) ?_ | fail) | fail)
      refine aw_ret (fin_ret ?_); simp -implicitDefEqProofs [FinP, resV, resT] <;> try rfl
    obtain rfl : ap = [] := List.length_eq_zero_iff.1 (by omega)
    cases c
    · refine row_of Try.func15 rfl rfl (Nat.le_of_ble_eq_true rfl) ?_
      repeat' (first | refine aw_seq ?_ | refine aw_skip ?_ | refine aw_block ?_ | refine aw_exit ?_ | refine aw_ct rfl ?_ | refine aw_cf rfl ?_ | ((first | refine aw_reg (fun K hK => ?_) | refine aw_drw mixd (fun K hK => ?_) | refine ar_call (cp hba ?_) | refine ard_call (dp hba ?_) | fail); simp -implicitDefEqProofs [h1]) | refine hK _ ?_ | refine hK _ _ (by rfl) ?_ | fail)
      refine aw_ret (fin_ret ?_); simp -implicitDefEqProofs [FinP, resV, resT] <;> try rfl
    · exact absurd ⟨fun _ => rfl, fun h => absurd h (by decide), fun _ => rfl⟩ hf
  · subst h
    cases c
    · refine row_of Try.func15 rfl rfl (Nat.le_of_ble_eq_true rfl) ?_
      repeat' (first | refine aw_seq ?_ | refine aw_skip ?_ | refine aw_block ?_ | refine aw_exit ?_ | refine aw_ct rfl ?_ | refine aw_cf rfl ?_ | ((first | refine aw_reg (fun K hK => ?_) | refine aw_drw mixd (fun K hK => ?_) | refine ar_call (cp hba ?_) | refine ard_call (dp hba ?_) | fail); simp -implicitDefEqProofs [h1]) | refine hK _ ?_ | refine hK _ _ (by rfl) ?_ | fail)
      refine aw_ret (fin_ret ?_); simp -implicitDefEqProofs [FinP, resV, resT] <;> try rfl
    · exact absurd ⟨fun h => absurd rfl h, fun h => absurd h (by decide), fun _ => rfl⟩ hf
theorem rdv_step (x : DLab) (l : List DT) (lv : Int) (h1 : ¬ 64 < lv) (hk : x.k = 1) (hx : x.ok) (hs : smD x) (hf : frmD x l.length) : RdvOk (.mk x l) lv := by
  have hst := rstep36_row x hx hs
  have hsl := sE_len hs
  have he : dEr (.mk x l) lv = sEr x.s := by rw [dEr_mk, if_neg h1, if_neg (fun k => k (.inl hk)), if_neg (fun k => k hf), if_pos hk]
  have hd : dE (.mk x l) = x.k :: sE x.s := by rw [dE_mk, if_pos hk]
  unfold RdvOk
  rw [he, hd]
  unfold rsV at hst
  obtain ⟨E, hE⟩ : ∃ E, sE x.s = E := ⟨_, rfl⟩
  obtain ⟨q, hq⟩ : ∃ q, sEr x.s = q := ⟨_, rfl⟩
  rw [hE] at hst hsl ⊢
  rw [hq] at hst ⊢
  obtain ⟨f1, f2, -⟩ := hf
  have p0 := f1 (by omega)
  have l0 := f2 hk
  clear hE hq he hd f1 f2 hs hx
  obtain ⟨ak, ap, ⟨ar, ab, asp, asn, ⟨ax, atl⟩⟩⟩ := x
  dsimp only at hk p0 hst
  subst hk
  obtain rfl := List.length_eq_zero_iff.1 p0
  obtain rfl := List.length_eq_zero_iff.1 l0
  have g1 : E.length + 1 ≤ 140737488355328 := by omega
  have g2 : E.length ≤ 140737488355327 := by omega
  have g3 : 1 + E.length ≤ 140737488355328 := by omega
  have wu : IntKind.u8.wrap 1 = 1 := by decide
  by_cases hq : q = 0
  · subst hq
    rw [if_pos rfl] at hst
    refine ⟨.sl 1 (iC (1 :: E)), fun _ => rfl, ?_⟩
    rw [iC_cons]
    refine row_of Try.func15 rfl rfl (Nat.le_of_ble_eq_true rfl) ?_
    repeat' (first | refine aw_seq ?_ | refine aw_skip ?_ | refine aw_block ?_ | refine aw_exit ?_ | refine aw_ct rfl ?_ | refine aw_cf rfl ?_ | ((first | refine aw_reg (fun K hK => ?_) | refine aw_drw mixd (fun K hK => ?_) | refine ar_call (cp hst ?_) | refine ard_call (dp hst ?_) | fail); simp -implicitDefEqProofs [h1, wu, iC_len, g1, g2, g3]) | refine hK _ ?_ | refine hK _ _ (by rfl) ?_ | fail)
    refine aw_ret (fin_ret ?_); simp -implicitDefEqProofs [FinP, resV, resT] <;> try rfl
  · rw [if_neg hq] at hst
    refine ⟨.sl 1 (iC [1]), fun h => absurd h hq, ?_⟩
    refine row_of Try.func15 rfl rfl (Nat.le_of_ble_eq_true rfl) ?_
    repeat' (first | refine aw_seq ?_ | refine aw_skip ?_ | refine aw_block ?_ | refine aw_exit ?_ | refine aw_ct rfl ?_ | refine aw_cf rfl ?_ | ((first | refine aw_reg (fun K hK => ?_) | refine aw_drw mixd (fun K hK => ?_) | refine ar_call (cp hst ?_) | refine ard_call (dp hst ?_) | fail); simp -implicitDefEqProofs [h1, wu]) | refine hK _ ?_ | refine hK _ _ (by rfl) ?_ | fail)
    refine aw_ret (fin_ret ?_); simp -implicitDefEqProofs [FinP, resV, resT, iC] <;> try rfl
theorem fstD_first {l : List DT} {k : Nat} {a : DT} {lv : Int} (ha : l[k]? = some a) (h0 : ∀ y ∈ l.take k, dEr y lv = 0) (hq : ¬ dEr a lv = 0) : fstE (l.map fun y => dEr y lv) = dEr a lv := by
  induction l generalizing k with
  | nil => simp at ha
  | cons y l ih =>
    cases k with
    | zero =>
      simp at ha
      subst ha
      simp only [List.map_cons, fstE]
      rw [if_neg hq]
    | succ k =>
      simp at ha
      rw [List.take_succ_cons] at h0
      simp only [List.map_cons, fstE]
      rw [if_pos (h0 y (by simp)), ih ha (fun z hz => h0 z (by simp [hz]))]
theorem fstD_none {l : List DT} {lv : Int} (h0 : ∀ y ∈ l, dEr y lv = 0) : fstE (l.map fun y => dEr y lv) = 0 := by
  induction l with
  | nil => rfl
  | cons y l ih =>
    simp only [List.map_cons, fstE]
    rw [if_pos (h0 y (by simp)), ih (fun z hz => h0 z (by simp [hz]))]
theorem flatD_len (l : List DT) (h : ∀ y ∈ l, Tr.all smD y) : ((l.map dE).flatten).length ≤ 12000 * (l.map Tr.size).sum := by
  induction l with
  | nil => simp
  | cons y l ih =>
    have a := dE_len y (h y (by simp))
    have b := ih (fun z hz => h z (by simp [hz]))
    simp only [List.map_cons, List.flatten_cons, List.length_append, List.sum_cons]
    omega
theorem rdv_seq (x : DLab) (l : List DT) (lv : Int) (h1 : ¬ 64 < lv) (hv0 : 1 ≤ lv) (hk : x.k = 2) (ht : x.s.t.size ≤ 1000000) (hf : frmD x l.length) (hl : l.length ≤ 1000) (hsz : (l.map Tr.size).sum ≤ 1000) (hsm : ∀ y ∈ l, Tr.all smD y) (hrow : ∀ y ∈ l, RdvOk y (lv + 1)) : RdvOk (.mk x l) lv := by
  have he : dEr (.mk x l) lv = fstE (l.map fun y => dEr y (lv + 1)) := by rw [dEr_mk, if_neg h1, if_neg (fun k => k (.inr (.inl hk))), if_neg (fun k => k hf), if_neg (by omega), if_neg (fun k => by omega)]
  have hd : dE (.mk x l) = (x.k :: vs.enc (l.length : Nat)) ++ (l.map dE).flatten := by rw [dE_mk, if_neg (by omega), if_neg (by omega), List.nil_append]; rfl
  refine ⟨if fstE (l.map fun y => dEr y (lv + 1)) = 0 then .sl 1 (iC (dE (.mk x l))) else .sl 1 [], fun h => by rw [← he, if_pos h], ?_⟩
  rw [he, hd]
  have hba := rbare_row x.s ht
  rw [hf.2.2 (by omega)] at hba
  have p0 := hf.1 (by omega)
  have hb2 := rbytes_row (l.length : Nat) (by omega) (by omega)
  have z2 := (enc_ln (l.length : Nat)).2
  have w0 : IntKind.u64.wrap (l.length : Int) = (l.length : Nat) := by rw [vs.u64_wrap]; omega
  have w3 : IntKind.i64.wrap (lv + 1) = lv + 1 := i64i _ (by omega) (by omega)
  clear he hd hf ht
  obtain ⟨ak, ap, ⟨ar, ab, asp, asn, ⟨ax, atl⟩⟩⟩ := x
  dsimp only at hk p0 hba ⊢
  subst hk
  obtain rfl := List.length_eq_zero_iff.1 p0
  obtain ⟨Z2, hZ2⟩ : ∃ Z, vs.enc (l.length : Nat) = Z := ⟨_, rfl⟩
  rw [hZ2] at hb2 z2 ⊢
  obtain ⟨A, hA⟩ : ∃ A, (2 : Int) :: Z2 = A := ⟨_, rfl⟩
  have hAl : A.length ≤ 2000 := by rw [← hA]; simp; omega
  have hA2 : [PV.lit (.int .u8 2)] :: iC Z2 = iC A := by rw [← hA]; rfl
  rw [hA]
  have g1 : 1 + Z2.length ≤ 140737488355328 := by omega
  have g2 : Z2.length ≤ 140737488355327 := by omega
  have g4 : Z2.length + 1 ≤ 140737488355328 := by omega
  have s0 : A ++ ((l.take 0).map dE).flatten = A := by simp
  have hV : fstE (l.map fun y => dEr y (lv + 1)) = 0 → (if fstE (l.map fun y => dEr y (lv + 1)) = 0 then PV.sl 1 (iC (A ++ (l.map dE).flatten)) else .sl 1 []) = .sl 1 (iC (A ++ (l.map dE).flatten)) := fun h => if_pos h
  have hW : ∀ {q : Int}, fstE (l.map fun y => dEr y (lv + 1)) = q → ¬ q = 0 → (if fstE (l.map fun y => dEr y (lv + 1)) = 0 then PV.sl 1 (iC (A ++ (l.map dE).flatten)) else .sl 1 []) = .sl 1 [] := fun h h0 => if_neg (by rw [h]; exact h0)
  obtain ⟨RV, hRV⟩ : ∃ RV, (if fstE (l.map fun y => dEr y (lv + 1)) = 0 then PV.sl 1 (iC (A ++ (l.map dE).flatten)) else .sl 1 []) = RV := ⟨_, rfl⟩
  rw [hRV] at hV hW ⊢
  clear hA hZ2 hRV
  have wu : IntKind.u8.wrap 2 = 2 := by decide
  refine row_of Try.func15 rfl rfl (Nat.le_of_ble_eq_true rfl) ?_
  repeat' (first | refine aw_seq ?_ | refine aw_skip ?_ | refine aw_block ?_ | refine aw_exit ?_ | refine aw_ct rfl ?_ | refine aw_cf rfl ?_ | ((first | refine aw_reg (fun K hK => ?_) | refine aw_drw mixd (fun K hK => ?_) | refine ar_call (cp hba ?_) | refine ard_call (dp hba ?_) | refine ar_call (cp hb2 ?_) | refine ard_call (dp hb2 ?_) | fail); simp -implicitDefEqProofs [h1, wu, w0, iC_len, g1, g2, g4, hA2]) | refine hK _ ?_ | refine hK _ _ (by rfl) ?_ | fail)
  refine aw_lp (ι := Nat) (fun k => mkSt [(1, vI lv), (2, .v (.c (.ptr 0 0))), (6, .v (.c (.row 1 1 (iC (A ++ ((l.take k).map dE).flatten))))), (11, vI (k : Nat))] [some (.box [.pv (I 2), .pv (Is []), .pv (I ar), .pv (Bo ab), .pv (Is asp), .pv (Is asn), .pv (I ax.k), .pv (I ax.n), .pv (Sx ax.s), .pv (.sl 6 (atl.map tc)), .pv (I ax.f), .pv (I ax.t), .pv (.sl 13 (l.map dc))]), some rwC]) (fun k => k ≤ l.length ∧ ∀ y ∈ l.take k, dEr y (lv + 1) = 0) (fun k => l.length - k) 0 ⟨Nat.zero_le _, by simp⟩ (by rw [s0]; exact cov_intro [0, 73] (by simp -implicitDefEqProofs) (by simp -implicitDefEqProofs) (by decide) rfl (by simp)) (fun Z hI k hk => ?_)
  clear s0
  obtain ⟨hk, hok⟩ := hk
  by_cases hkl : k < l.length; rotate_left
  · have : k = l.length := by omega
    subst this
    rw [List.take_length] at hok ⊢
    have h0 := fstD_none hok
    rw [h0]
    have hVV := hV h0
    rw [hVV]
    repeat (first | refine aw_seq ?_ | refine aw_skip ?_ | refine aw_block ?_ | refine aw_exit ?_ | refine aw_ct rfl ?_ | refine aw_cf rfl ?_ | ((first | refine aw_reg (fun K hK => ?_) | refine aw_drw mixd (fun K hK => ?_) | fail); simp -implicitDefEqProofs; first | refine hK _ ?_ | refine hK _ _ (by rfl) ?_ | fail) | fail)
    refine aw_ret (fin_ret ?_); simp -implicitDefEqProofs [FinP, resV, resT] <;> try rfl
  obtain ⟨a, ha⟩ : ∃ a, l[k]? = some a := ⟨_, List.getElem?_eq_getElem hkl⟩
  have ha' := (List.getElem?_eq_some_iff.1 ha).2
  have w2 : IntKind.i64.wrap ((k : Nat) + 1 : Int) = (k : Nat) + 1 := i64i _ (by omega) (by omega)
  obtain ⟨VV, hv1, hr⟩ := hrow a (List.mem_of_getElem? ha)
  have hfs : ((l.take (k + 1)).map dE).flatten = ((l.take k).map dE).flatten ++ dE a := by rw [List.take_add_one, ha]; simp
  have hlk := flatD_len (l.take k) (fun y hy => hsm y (List.mem_of_mem_take hy))
  have hcu := size_cutD l k
  have hta := dE_len a (hsm a (List.mem_of_getElem? ha))
  have hda : l.drop k = a :: l.drop (k + 1) := by rw [List.drop_eq_getElem_cons hkl, ha']
  rw [hda, List.map_cons, List.sum_cons] at hcu
  clear hrow hsm hda
  by_cases hq : dEr a (lv + 1) = 0
  · rw [hv1 hq, hq] at hr
    obtain ⟨Va, hVa⟩ : ∃ V, dE a = V := ⟨_, rfl⟩
    obtain ⟨U, hU⟩ : ∃ U, A ++ ((l.take k).map dE).flatten = U := ⟨_, rfl⟩
    have hUl : U.length ≤ 2000 + 12000 * 1000 := by rw [← hU, List.length_append]; omega
    rw [hVa] at hr hfs hta
    have g3 : U.length + Va.length ≤ 140737488355328 := by omega
    have hn : A ++ ((l.take (k + 1)).map dE).flatten = U ++ Va := by rw [hfs, ← List.append_assoc, hU]
    rw [hU]
    have hap := iC_app U Va
    have hok' : ∀ y ∈ l.take (k + 1), dEr y (lv + 1) = 0 := fun y hy => by
      rw [List.take_add_one, ha] at hy
      rcases List.mem_append.1 hy with hy | hy
      · exact hok y hy
      · simp at hy; subst hy; exact hq
    clear hok hfs hVa hU hq hcu hlk hUl hta hv1 hV
    obtain ⟨⟨bk, bp, ⟨br, bb, bsp, bsn, ⟨bx, btl⟩⟩⟩, bl⟩ := a
    repeat' (first | refine aw_seq ?_ | refine aw_skip ?_ | refine aw_block ?_ | refine aw_exit ?_ | refine aw_ct rfl ?_ | refine aw_cf rfl ?_ | ((first | refine aw_reg (fun K hK => ?_) | refine aw_drw mixd (fun K hK => ?_) | refine ar_call (cp hr ?_) | refine ard_call (dp hr ?_) | fail); simp -implicitDefEqProofs [hkl, ha, ha', w2, w3, iC_len, g3, hap]) | refine hK _ ?_ | refine hK _ _ (by rfl) ?_ | fail)
    refine ⟨k + 1, ⟨by omega, hok'⟩, (by dsimp only; omega), ?_⟩
    rw [hI]; simp only [hn]; exact cov_intro [0, 31] (by simp -implicitDefEqProofs) (by simp -implicitDefEqProofs) (by decide) rfl (by simp)
  · have hfe := fstD_first ha hok hq
    rw [hfe]
    obtain ⟨q, hqq⟩ : ∃ q, dEr a (lv + 1) = q := ⟨_, rfl⟩
    rw [hqq] at hr hq hfe ⊢
    rw [hW hfe hq]
    clear hok hfe hV hW hv1 hqq hfs hta
    obtain ⟨⟨bk, bp, ⟨br, bb, bsp, bsn, ⟨bx, btl⟩⟩⟩, bl⟩ := a
    repeat' (first | refine aw_seq ?_ | refine aw_skip ?_ | refine aw_block ?_ | refine aw_exit ?_ | refine aw_ct rfl ?_ | refine aw_cf rfl ?_ | ((first | refine aw_reg (fun K hK => ?_) | refine aw_drw mixd (fun K hK => ?_) | refine ar_call (cp hr ?_) | refine ard_call (dp hr ?_) | fail); simp -implicitDefEqProofs [hkl, ha, ha', w2, w3, hq]) | refine hK _ ?_ | refine hK _ _ (by rfl) ?_ | fail)
    refine aw_ret (fin_ret ?_); simp -implicitDefEqProofs [FinP, resV, resT] <;> try rfl
theorem rdv_at (x : DLab) (l : List DT) (lv : Int) (h1 : ¬ 64 < lv) (hv0 : 1 ≤ lv) (hk : x.k = 3) (ht : x.s.t.size ≤ 1000000) (hpl : x.p.length ≤ 100) (hf : frmD x l.length) (hl : l.length ≤ 1000) (hsz : (l.map Tr.size).sum ≤ 1000) (hsm : ∀ y ∈ l, Tr.all smD y) (hrow : ∀ y ∈ l, RdvOk y (lv + 1)) : RdvOk (.mk x l) lv := by
  have hlr := rlist36_row x.p (by omega)
  have hba := rbare_row x.s ht
  rw [hf.2.2 (by omega)] at hba
  have wu : IntKind.u8.wrap 3 = 3 := by decide
  unfold rlV at hlr
  by_cases hp : lEr x.p = 0; rotate_left
  · refine rdv_bad (e := lEr x.p) (by rw [dEr_mk, if_neg h1, if_neg (fun k => k (.inr (.inr hk))), if_neg (fun k => k hf), if_neg (by omega), if_pos ⟨hk, hp⟩]) hp ?_
    rw [if_neg hp] at hlr
    obtain ⟨e, he⟩ : ∃ e, lEr x.p = e := ⟨_, rfl⟩
    rw [he] at hlr hp ⊢
    clear he hf ht
    obtain ⟨ak, ap, ⟨ar, ab, asp, asn, ⟨ax, atl⟩⟩⟩ := x
    dsimp only at hk hba hlr hpl
    subst hk
    refine row_of Try.func15 rfl rfl (Nat.le_of_ble_eq_true rfl) ?_
    repeat' (first | refine aw_seq ?_ | refine aw_skip ?_ | refine aw_block ?_ | refine aw_exit ?_ | refine aw_ct rfl ?_ | refine aw_cf rfl ?_ | ((first | refine aw_reg (fun K hK => ?_) | refine aw_drw mixd (fun K hK => ?_) | refine ar_call (cp hba ?_) | refine ard_call (dp hba ?_) | refine ar_call (cp hlr ?_) | refine ard_call (dp hlr ?_) | fail); simp -implicitDefEqProofs [h1, wu, hp]) | refine hK _ ?_ | refine hK _ _ (by rfl) ?_ | fail)
    refine aw_ret (fin_ret ?_); simp -implicitDefEqProofs [FinP, resV, resT] <;> try rfl
  rw [if_pos hp, hp] at hlr
  have he : dEr (.mk x l) lv = fstE (l.map fun y => dEr y (lv + 1)) := by rw [dEr_mk, if_neg h1, if_neg (fun k => k (.inr (.inr hk))), if_neg (fun k => k hf), if_neg (by omega), if_neg (fun k => k.2 hp)]
  have hd : dE (.mk x l) = (x.k :: (lE x.p ++ vs.enc (l.length : Nat))) ++ (l.map dE).flatten := by
    rw [dE_mk, if_neg (by omega), if_pos hk]
    simp only [List.cons_append, List.append_assoc]
  refine ⟨if fstE (l.map fun y => dEr y (lv + 1)) = 0 then .sl 1 (iC (dE (.mk x l))) else .sl 1 [], fun h => by rw [← he, if_pos h], ?_⟩
  rw [he, hd]
  have hb2 := rbytes_row (l.length : Nat) (by omega) (by omega)
  have z2 := (enc_ln (l.length : Nat)).2
  have z1 := lE_len x.p
  have w0 : IntKind.u64.wrap (l.length : Int) = (l.length : Nat) := by rw [vs.u64_wrap]; omega
  have w3 : IntKind.i64.wrap (lv + 1) = lv + 1 := i64i _ (by omega) (by omega)
  clear he hd hf ht hp
  obtain ⟨ak, ap, ⟨ar, ab, asp, asn, ⟨ax, atl⟩⟩⟩ := x
  dsimp only at hk hba hlr hpl z1 ⊢
  subst hk
  obtain ⟨Z1, hZ1⟩ : ∃ Z, lE ap = Z := ⟨_, rfl⟩
  rw [hZ1] at hlr z1 ⊢
  obtain ⟨Z2, hZ2⟩ : ∃ Z, vs.enc (l.length : Nat) = Z := ⟨_, rfl⟩
  rw [hZ2] at hb2 z2 ⊢
  obtain ⟨A, hA⟩ : ∃ A, (3 : Int) :: (Z1 ++ Z2) = A := ⟨_, rfl⟩
  have hAl : A.length ≤ 2000 := by rw [← hA]; simp; omega
  have hA2 : [PV.lit (.int .u8 3)] :: (iC Z1 ++ iC Z2) = iC A := by rw [← hA, iC_app]; rfl
  rw [hA]
  have g1 : 1 + Z1.length ≤ 140737488355328 := by omega
  have g2 : Z1.length ≤ 140737488355327 := by omega
  have g4 : Z1.length + 1 + Z2.length ≤ 140737488355328 := by omega
  have g5 : Z1.length + 1 ≤ 140737488355328 := by omega
  have s0 : A ++ ((l.take 0).map dE).flatten = A := by simp
  have hV : fstE (l.map fun y => dEr y (lv + 1)) = 0 → (if fstE (l.map fun y => dEr y (lv + 1)) = 0 then PV.sl 1 (iC (A ++ (l.map dE).flatten)) else .sl 1 []) = .sl 1 (iC (A ++ (l.map dE).flatten)) := fun h => if_pos h
  have hW : ∀ {q : Int}, fstE (l.map fun y => dEr y (lv + 1)) = q → ¬ q = 0 → (if fstE (l.map fun y => dEr y (lv + 1)) = 0 then PV.sl 1 (iC (A ++ (l.map dE).flatten)) else .sl 1 []) = .sl 1 [] := fun h h0 => if_neg (by rw [h]; exact h0)
  obtain ⟨RV, hRV⟩ : ∃ RV, (if fstE (l.map fun y => dEr y (lv + 1)) = 0 then PV.sl 1 (iC (A ++ (l.map dE).flatten)) else .sl 1 []) = RV := ⟨_, rfl⟩
  rw [hRV] at hV hW ⊢
  clear hA hZ1 hZ2 hRV
  refine row_of Try.func15 rfl rfl (Nat.le_of_ble_eq_true rfl) ?_
  repeat' (first | refine aw_seq ?_ | refine aw_skip ?_ | refine aw_block ?_ | refine aw_exit ?_ | refine aw_ct rfl ?_ | refine aw_cf rfl ?_ | ((first | refine aw_reg (fun K hK => ?_) | refine aw_drw mixd (fun K hK => ?_) | refine ar_call (cp hba ?_) | refine ard_call (dp hba ?_) | refine ar_call (cp hlr ?_) | refine ard_call (dp hlr ?_) | refine ar_call (cp hb2 ?_) | refine ard_call (dp hb2 ?_) | fail); simp -implicitDefEqProofs [h1, wu, w0, iC_len, g1, g2, g4, g5, hA2]) | refine hK _ ?_ | refine hK _ _ (by rfl) ?_ | fail)
  refine aw_lp (ι := Nat) (fun k => mkSt [(1, vI lv), (2, .v (.c (.ptr 0 0))), (6, .v (.c (.row 1 1 (iC (A ++ ((l.take k).map dE).flatten))))), (11, vI (k : Nat))] [some (.box [.pv (I 3), .pv (Is ap), .pv (I ar), .pv (Bo ab), .pv (Is asp), .pv (Is asn), .pv (I ax.k), .pv (I ax.n), .pv (Sx ax.s), .pv (.sl 6 (atl.map tc)), .pv (I ax.f), .pv (I ax.t), .pv (.sl 13 (l.map dc))]), some rwC]) (fun k => k ≤ l.length ∧ ∀ y ∈ l.take k, dEr y (lv + 1) = 0) (fun k => l.length - k) 0 ⟨Nat.zero_le _, by simp⟩ (by rw [s0]; exact cov_intro [0, 93] (by simp -implicitDefEqProofs) (by simp -implicitDefEqProofs) (by decide) rfl (by simp)) (fun Z hI k hk => ?_)
  clear s0
  obtain ⟨hk, hok⟩ := hk
  by_cases hkl : k < l.length; rotate_left
  · have : k = l.length := by omega
    subst this
    rw [List.take_length] at hok ⊢
    have h0 := fstD_none hok
    rw [h0]
    have hVV := hV h0
    rw [hVV]
    repeat (first | refine aw_seq ?_ | refine aw_skip ?_ | refine aw_block ?_ | refine aw_exit ?_ | refine aw_ct rfl ?_ | refine aw_cf rfl ?_ | ((first | refine aw_reg (fun K hK => ?_) | refine aw_drw mixd (fun K hK => ?_) | fail); simp -implicitDefEqProofs; first | refine hK _ ?_ | refine hK _ _ (by rfl) ?_ | fail) | fail)
    refine aw_ret (fin_ret ?_); simp -implicitDefEqProofs [FinP, resV, resT] <;> try rfl
  obtain ⟨a, ha⟩ : ∃ a, l[k]? = some a := ⟨_, List.getElem?_eq_getElem hkl⟩
  have ha' := (List.getElem?_eq_some_iff.1 ha).2
  have w2 : IntKind.i64.wrap ((k : Nat) + 1 : Int) = (k : Nat) + 1 := i64i _ (by omega) (by omega)
  obtain ⟨VV, hv1, hr⟩ := hrow a (List.mem_of_getElem? ha)
  have hfs : ((l.take (k + 1)).map dE).flatten = ((l.take k).map dE).flatten ++ dE a := by rw [List.take_add_one, ha]; simp
  have hlk := flatD_len (l.take k) (fun y hy => hsm y (List.mem_of_mem_take hy))
  have hcu := size_cutD l k
  have hta := dE_len a (hsm a (List.mem_of_getElem? ha))
  have hda : l.drop k = a :: l.drop (k + 1) := by rw [List.drop_eq_getElem_cons hkl, ha']
  rw [hda, List.map_cons, List.sum_cons] at hcu
  clear hrow hsm hda
  by_cases hq : dEr a (lv + 1) = 0
  · rw [hv1 hq, hq] at hr
    obtain ⟨Va, hVa⟩ : ∃ V, dE a = V := ⟨_, rfl⟩
    obtain ⟨U, hU⟩ : ∃ U, A ++ ((l.take k).map dE).flatten = U := ⟨_, rfl⟩
    have hUl : U.length ≤ 2000 + 12000 * 1000 := by rw [← hU, List.length_append]; omega
    rw [hVa] at hr hfs hta
    have g3 : U.length + Va.length ≤ 140737488355328 := by omega
    have hn : A ++ ((l.take (k + 1)).map dE).flatten = U ++ Va := by rw [hfs, ← List.append_assoc, hU]
    rw [hU]
    have hap := iC_app U Va
    have hok' : ∀ y ∈ l.take (k + 1), dEr y (lv + 1) = 0 := fun y hy => by
      rw [List.take_add_one, ha] at hy
      rcases List.mem_append.1 hy with hy | hy
      · exact hok y hy
      · simp at hy; subst hy; exact hq
    clear hok hfs hVa hU hq hcu hlk hUl hta hv1 hV
    obtain ⟨⟨bk, bp, ⟨br, bb, bsp, bsn, ⟨bx, btl⟩⟩⟩, bl⟩ := a
    repeat' (first | refine aw_seq ?_ | refine aw_skip ?_ | refine aw_block ?_ | refine aw_exit ?_ | refine aw_ct rfl ?_ | refine aw_cf rfl ?_ | ((first | refine aw_reg (fun K hK => ?_) | refine aw_drw mixd (fun K hK => ?_) | refine ar_call (cp hr ?_) | refine ard_call (dp hr ?_) | fail); simp -implicitDefEqProofs [hkl, ha, ha', w2, w3, iC_len, g3, hap]) | refine hK _ ?_ | refine hK _ _ (by rfl) ?_ | fail)
    refine ⟨k + 1, ⟨by omega, hok'⟩, (by dsimp only; omega), ?_⟩
    rw [hI]; simp only [hn]; exact cov_intro [0, 31] (by simp -implicitDefEqProofs) (by simp -implicitDefEqProofs) (by decide) rfl (by simp)
  · have hfe := fstD_first ha hok hq
    rw [hfe]
    obtain ⟨q, hqq⟩ : ∃ q, dEr a (lv + 1) = q := ⟨_, rfl⟩
    rw [hqq] at hr hq hfe ⊢
    rw [hW hfe hq]
    clear hok hfe hV hW hv1 hqq hfs hta
    obtain ⟨⟨bk, bp, ⟨br, bb, bsp, bsn, ⟨bx, btl⟩⟩⟩, bl⟩ := a
    repeat' (first | refine aw_seq ?_ | refine aw_skip ?_ | refine aw_block ?_ | refine aw_exit ?_ | refine aw_ct rfl ?_ | refine aw_cf rfl ?_ | ((first | refine aw_reg (fun K hK => ?_) | refine aw_drw mixd (fun K hK => ?_) | refine ar_call (cp hr ?_) | refine ard_call (dp hr ?_) | fail); simp -implicitDefEqProofs [hkl, ha, ha', w2, w3, hq]) | refine hK _ ?_ | refine hK _ _ (by rfl) ?_ | fail)
    refine aw_ret (fin_ret ?_); simp -implicitDefEqProofs [FinP, resV, resT] <;> try rfl
theorem rderiv36_row (d : DT) : dok64 d → Tr.all smD d → d.size ≤ 1000 → ∀ lv : Int, 1 ≤ lv → RdvOk d lv := by
  induction d using Tr.ind with
  | h x l ih =>
  intro hi hs hsz lv hv0
  obtain ⟨hx, hil⟩ := (Tr.all_mk _ _ _).1 hi
  obtain ⟨sx, sl⟩ := (Tr.all_mk _ _ _).1 hs
  have hlen := Tr.len_size (x := x) (l := l)
  have ht : x.s.t.size ≤ 1000000 := by have := sx.2.2.2; omega
  by_cases h1 : 64 < lv
  · exact rdv_deep x l lv h1
  by_cases hk : kndD x.k; rotate_left
  · exact rdv_kind x l lv h1 hk
  by_cases hf : frmD x l.length; rotate_left
  · exact rdv_form x l lv h1 hk ht hf
  have hrow : ∀ y ∈ l, RdvOk y (lv + 1) := fun y hy => by
    obtain ⟨i, hi⟩ := List.mem_iff_getElem?.1 hy
    have := Tr.size_at (x := x) hi
    exact ih y hy (hil y hy) (sl y hy) (by omega) (lv + 1) (by omega)
  rw [Tr.size_mk] at hsz
  rcases hk with h | h | h
  · exact rdv_step x l lv h1 h hx sx hf
  · exact rdv_seq x l lv h1 hv0 h ht hf (by rw [Tr.size_mk] at hlen; omega) (by omega) sl hrow
  · exact rdv_at x l lv h1 hv0 h ht sx.1 hf (by rw [Tr.size_mk] at hlen; omega) (by omega) sl hrow
theorem cntK_len {l : List VT} {lv n : Int} : ∀ k, k ≤ l.length → cntK l lv n k ≤ n ∧ (0 ≤ cntK l lv n k → cntK l lv n k + k ≤ n) := fun k => by
  induction k with
  | zero => intro _; rw [cntK_zero]; omega
  | succ k ih =>
    intro hk
    obtain ⟨i1, i2⟩ := ih (by omega)
    have hy : l[k]? = some (l[k]'(by omega)) := List.getElem?_eq_getElem _
    rw [cntK_succ hy]
    split
    · rename_i hc
      have h1 := cnt_le (l[k]'(by omega)) (cntK l lv n k) (lv - 1) (by omega)
      have h2 := Tr.size_pos (l[k]'(by omega))
      have h3 := i2 hc
      refine ⟨by omega, fun h => ?_⟩
      have := h1.2.2 h
      omega
    · rename_i hc; exact ⟨i1, fun h => absurd h hc⟩
theorem rcnt_row (t : VT) : ∀ left lv : Int, 0 ≤ left → left ≤ 1000000 → lv ≤ 1000 → -1000000 ≤ lv → Row Try.prog 21 [vT t, vI left, vI lv] [] (vI (cntT t left lv)) [] := by
  induction t using Tr.ind with
  | h x l ih =>
  intro left lv h0 h1 h2 h3
  have hlen := Tr.len_size (x := x) (l := l)
  rw [cnt_mk]
  refine row_of Try.func21 rfl rfl (Nat.le_of_ble_eq_true rfl) ?_
  by_cases hl : lv ≤ 0
  · rw [if_pos hl]
    repeat (first | refine aw_seq ?_ | refine aw_skip ?_ | refine aw_block ?_ | refine aw_exit ?_ | refine aw_cond rfl (fun _ => ?_) (fun hb => absurd hb (by decide)) | refine aw_cond rfl (fun hb => absurd hb (by decide)) (fun _ => ?_) | (refine aw_reg (fun K hK => ?_); simp -implicitDefEqProofs [hl]; refine hK _ ?_) | (refine aw_drw mixd (fun K hK => ?_); simp -implicitDefEqProofs [hl]; refine hK _ _ (by rfl) ?_) | fail)
    refine aw_ret (fin_ret ?_); simp -implicitDefEqProofs [FinP, resV, resT] <;> try rfl
  rw [if_neg hl]
  have w1 : IntKind.i64.wrap (left - 1) = left - 1 := i64i _ (by omega) (by omega)
  have w3 : IntKind.i64.wrap (lv - 1) = lv - 1 := i64i _ (by omega) (by omega)
  repeat (first | refine aw_seq ?_ | refine aw_skip ?_ | refine aw_block ?_ | refine aw_exit ?_ | refine aw_cond rfl (fun _ => ?_) (fun hb => absurd hb (by decide)) | refine aw_cond rfl (fun hb => absurd hb (by decide)) (fun _ => ?_) | (refine aw_reg (fun K hK => ?_); simp -implicitDefEqProofs [hl, w1]; refine hK _ ?_) | (refine aw_drw mixd (fun K hK => ?_); simp -implicitDefEqProofs [hl, w1]; refine hK _ _ (by rfl) ?_) | fail)
  refine aw_lp (ι := Nat) (fun k => mkSt [(1, vI (cntK l lv (left - 1) k)), (2, vI lv), (3, .v (.c (.ptr 0 0))), (7, vI (k : Nat))] [some (.box (ta (.mk x l)))]) (fun k => k ≤ l.length ∧ -2 ≤ cntK l lv (left - 1) k ∧ cntK l lv (left - 1) k ≤ left) (fun k => l.length - k) 0 ⟨Nat.zero_le _, by rw [cntK_zero]; omega, by rw [cntK_zero]; omega⟩ (cov_intro [0] (by simp -implicitDefEqProofs [cntK_zero]) (by simp -implicitDefEqProofs [cntK_zero]) (by decide) rfl (by simp)) (fun Z hI k hkz => ?_)
  obtain ⟨hk, hc1, hc2⟩ := hkz
  by_cases hkl : k < l.length; rotate_left
  · have : k = l.length := by omega
    subst this
    repeat (first | refine aw_seq ?_ | refine aw_skip ?_ | refine aw_block ?_ | refine aw_exit ?_ | refine aw_cond rfl (fun _ => ?_) (fun hb => absurd hb (by decide)) | refine aw_cond rfl (fun hb => absurd hb (by decide)) (fun _ => ?_) | (refine aw_reg (fun K hK => ?_); simp -implicitDefEqProofs; refine hK _ ?_) | (refine aw_drw mixd (fun K hK => ?_); simp -implicitDefEqProofs; refine hK _ _ (by rfl) ?_) | fail)
    refine aw_ret (fin_ret ?_); simp -implicitDefEqProofs [FinP, resV, resT] <;> try rfl
  by_cases hc : 0 ≤ cntK l lv (left - 1) k; rotate_left
  · have := cntK_neg (l := l) (lv := lv) (n := left - 1) (k := k) (by omega) l.length hk (Nat.le_refl _)
    rw [this]
    repeat (first | refine aw_seq ?_ | refine aw_skip ?_ | refine aw_block ?_ | refine aw_exit ?_ | refine aw_cond rfl (fun _ => ?_) (fun hb => absurd hb (by decide)) | refine aw_cond rfl (fun hb => absurd hb (by decide)) (fun _ => ?_) | (refine aw_reg (fun K hK => ?_); simp -implicitDefEqProofs [hkl, hc]; refine hK _ ?_) | (refine aw_drw mixd (fun K hK => ?_); simp -implicitDefEqProofs [hkl, hc]; refine hK _ _ (by rfl) ?_) | fail)
    refine aw_ret (fin_ret ?_); simp -implicitDefEqProofs [FinP, resV, resT] <;> try rfl
  obtain ⟨⟨ax, al⟩, ha⟩ : ∃ a, l[k]? = some a := ⟨_, List.getElem?_eq_getElem hkl⟩
  have ha' := (List.getElem?_eq_some_iff.1 ha).2
  have hsz1 := Tr.size_at (x := x) ha
  have hcs := cntK_succ (lv := lv) (n := left - 1) ha
  have hkn := (cntK_len (l := l) (lv := lv) (n := left - 1) k hk).2 hc
  have w2 : IntKind.i64.wrap ((k : Nat) + 1 : Int) = (k : Nat) + 1 := i64i _ (by omega) (by omega)
  rw [if_pos hc] at hcs
  have hle := cnt_le (.mk ax al) (cntK l lv (left - 1) k) (lv - 1) (by omega)
  repeat (first | refine aw_seq ?_ | refine aw_skip ?_ | refine aw_block ?_ | refine aw_exit ?_ | refine aw_cond rfl (fun _ => ?_) (fun hb => absurd hb (by decide)) | refine aw_cond rfl (fun hb => absurd hb (by decide)) (fun _ => ?_) | (refine aw_reg (fun K hK => ?_); simp -implicitDefEqProofs [hkl, hc]; refine hK _ ?_) | (refine aw_drw mixd (fun K hK => ?_); simp -implicitDefEqProofs [hkl, hc]; refine hK _ _ (by rfl) ?_) | fail)
  refine aw_reg (fun K hK => ?_); simp -implicitDefEqProofs [hkl, ha, ha', w3]
  refine ar_call (call_pure (ih _ (List.mem_of_getElem? ha) (cntK l lv (left - 1) k) (lv - 1) (by omega) (by omega) (by omega) (by omega)) (by simp) (fun _ => rfl) rfl ?_)
  simp -implicitDefEqProofs; refine hK _ ?_
  repeat (first | refine aw_seq ?_ | refine aw_skip ?_ | refine aw_block ?_ | refine aw_exit ?_ | refine aw_cond rfl (fun _ => ?_) (fun hb => absurd hb (by decide)) | refine aw_cond rfl (fun hb => absurd hb (by decide)) (fun _ => ?_) | (refine aw_reg (fun K hK => ?_); simp -implicitDefEqProofs [w2]; refine hK _ ?_) | (refine aw_drw mixd (fun K hK => ?_); simp -implicitDefEqProofs [w2]; refine hK _ _ (by rfl) ?_) | fail)
  refine ⟨k + 1, ⟨by omega, by rw [hcs]; omega, by rw [hcs]; omega⟩, (by dsimp only; omega), ?_⟩
  rw [hI]; exact cov_intro [0] (by simp -implicitDefEqProofs [hcs]) (by simp -implicitDefEqProofs [hcs]) (by decide) rfl (by simp)
theorem rnmd_row (t : VT) : t.size ≤ 1000000 → Row Try.prog 22 [vT t] [] (vB (nmd t)) [] := by
  induction t using Tr.ind with
  | h x l ih =>
  intro hsz
  have hlen := Tr.len_size (x := x) (l := l)
  rw [nmd_mk]
  refine row_of Try.func22 rfl rfl (Nat.le_of_ble_eq_true rfl) ?_
  by_cases hs : 40 < x.s.size
  · have hs' : (40 : Int) < (x.s.size : Nat) := by omega
    repeat (first | refine aw_seq ?_ | refine aw_skip ?_ | refine aw_block ?_ | refine aw_exit ?_ | refine aw_cond rfl (fun _ => ?_) (fun hb => absurd hb (by decide)) | refine aw_cond rfl (fun hb => absurd hb (by decide)) (fun _ => ?_) | (refine aw_reg (fun K hK => ?_); simp -implicitDefEqProofs [hs, hs']; refine hK _ ?_) | (refine aw_drw mixd (fun K hK => ?_); simp -implicitDefEqProofs [hs, hs']; refine hK _ _ (by rfl) ?_) | fail)
    refine aw_ret (fin_ret ?_); simp -implicitDefEqProofs [FinP, resV, resT, hs] <;> try rfl
  have hs' : ¬ (40 : Int) < (x.s.size : Nat) := by omega
  repeat (first | refine aw_seq ?_ | refine aw_skip ?_ | refine aw_block ?_ | refine aw_exit ?_ | refine aw_cond rfl (fun _ => ?_) (fun hb => absurd hb (by decide)) | refine aw_cond rfl (fun hb => absurd hb (by decide)) (fun _ => ?_) | (refine aw_reg (fun K hK => ?_); simp -implicitDefEqProofs [hs, hs']; refine hK _ ?_) | (refine aw_drw mixd (fun K hK => ?_); simp -implicitDefEqProofs [hs, hs']; refine hK _ _ (by rfl) ?_) | fail)
  refine aw_lp (ι := Nat) (fun k => mkSt [(1, .v (.c (.ptr 0 0))), (3, vI (k : Nat))] [some (.box (ta (.mk x l)))]) (fun k => k ≤ l.length ∧ anyK nmd l k = false) (fun k => l.length - k) 0 ⟨Nat.zero_le _, anyK_zero _ _⟩ (cov_intro [0] (by simp -implicitDefEqProofs) (by simp -implicitDefEqProofs) (by decide) rfl (by simp)) (fun Z hI k hkz => ?_)
  obtain ⟨hk, hz⟩ := hkz
  by_cases hkl : k < l.length; rotate_left
  · have : k = l.length := by omega
    subst this
    rw [anyK_all] at hz
    repeat (first | refine aw_seq ?_ | refine aw_skip ?_ | refine aw_block ?_ | refine aw_exit ?_ | refine aw_cond rfl (fun _ => ?_) (fun hb => absurd hb (by decide)) | refine aw_cond rfl (fun hb => absurd hb (by decide)) (fun _ => ?_) | (refine aw_reg (fun K hK => ?_); simp -implicitDefEqProofs; refine hK _ ?_) | (refine aw_drw mixd (fun K hK => ?_); simp -implicitDefEqProofs; refine hK _ _ (by rfl) ?_) | fail)
    refine aw_ret (fin_ret ?_); simp -implicitDefEqProofs [FinP, resV, resT, hs, hz] <;> try rfl
  obtain ⟨⟨ax, al⟩, ha⟩ : ∃ a, l[k]? = some a := ⟨_, List.getElem?_eq_getElem hkl⟩
  have ha' := (List.getElem?_eq_some_iff.1 ha).2
  have hsz1 := Tr.size_at (x := x) ha
  have w2 : IntKind.i64.wrap ((k : Nat) + 1 : Int) = (k : Nat) + 1 := i64i _ (by omega) (by omega)
  have hcs := anyK_succ (f := nmd) ha
  repeat (first | refine aw_seq ?_ | refine aw_skip ?_ | refine aw_block ?_ | refine aw_exit ?_ | refine aw_cond rfl (fun _ => ?_) (fun hb => absurd hb (by decide)) | refine aw_cond rfl (fun hb => absurd hb (by decide)) (fun _ => ?_) | (refine aw_reg (fun K hK => ?_); simp -implicitDefEqProofs [hkl]; refine hK _ ?_) | (refine aw_drw mixd (fun K hK => ?_); simp -implicitDefEqProofs [hkl]; refine hK _ _ (by rfl) ?_) | fail)
  refine aw_reg (fun K hK => ?_); simp -implicitDefEqProofs [hkl, ha, ha']
  refine ar_call (call_pure (ih _ (List.mem_of_getElem? ha) (by omega)) (by simp) (fun _ => rfl) rfl ?_)
  simp -implicitDefEqProofs; refine hK _ ?_
  refine aw_cond rfl (fun hb => ?_) (fun hb => ?_)
  · have := any_of ha hb
    repeat (first | refine aw_seq ?_ | refine aw_skip ?_ | refine aw_block ?_ | refine aw_exit ?_ | refine aw_cond rfl (fun _ => ?_) (fun hb => absurd hb (by decide)) | refine aw_cond rfl (fun hb => absurd hb (by decide)) (fun _ => ?_) | (refine aw_reg (fun K hK => ?_); simp -implicitDefEqProofs; refine hK _ ?_) | (refine aw_drw mixd (fun K hK => ?_); simp -implicitDefEqProofs; refine hK _ _ (by rfl) ?_) | fail)
    refine aw_ret (fin_ret ?_); simp -implicitDefEqProofs [FinP, resV, resT, this] <;> try rfl
  · repeat (first | refine aw_seq ?_ | refine aw_skip ?_ | refine aw_block ?_ | refine aw_exit ?_ | refine aw_cond rfl (fun _ => ?_) (fun hb => absurd hb (by decide)) | refine aw_cond rfl (fun hb => absurd hb (by decide)) (fun _ => ?_) | (refine aw_reg (fun K hK => ?_); simp -implicitDefEqProofs [w2]; refine hK _ ?_) | (refine aw_drw mixd (fun K hK => ?_); simp -implicitDefEqProofs [w2]; refine hK _ _ (by rfl) ?_) | fail)
    refine ⟨k + 1, ⟨by omega, by rw [hcs, hz, hb]; rfl⟩, (by dsimp only; omega), ?_⟩
    rw [hI]; exact cov_intro [0] (by simp -implicitDefEqProofs) (by simp -implicitDefEqProofs) (by decide) rfl (by simp)
theorem rlarge_row (t : VT) : Row Try.prog 6 [vT t] [] (vB (large t)) [] := by
  refine row_of Try.func6 rfl rfl (Nat.le_of_ble_eq_true rfl) ?_
  obtain ⟨x, l⟩ := t
  repeat (first | refine aw_seq ?_ | refine aw_skip ?_ | refine aw_block ?_ | refine aw_exit ?_ | refine aw_cond rfl (fun _ => ?_) (fun hb => absurd hb (by decide)) | refine aw_cond rfl (fun hb => absurd hb (by decide)) (fun _ => ?_) | (refine aw_reg (fun K hK => ?_); simp -implicitDefEqProofs; refine hK _ ?_) | (refine aw_drw mixd (fun K hK => ?_); simp -implicitDefEqProofs; refine hK _ _ (by rfl) ?_) | fail)
  refine aw_reg (fun K hK => ?_); simp -implicitDefEqProofs
  refine ar_call (call_pure (rcnt_row (.mk x l) 400 70 (by omega) (by omega) (by omega) (by omega)) (by simp) (fun _ => rfl) rfl ?_)
  by_cases hc : cntT (.mk x l) 400 70 < 0
  · simp -implicitDefEqProofs [hc]; refine hK _ ?_
    refine aw_ret (fin_ret ?_); simp -implicitDefEqProofs [FinP, resV, resT, large, hc] <;> try rfl
  · simp -implicitDefEqProofs [hc]
    refine ar_call (call_pure (rnmd_row (.mk x l) (by have := (cnt_le (.mk x l) 400 70 (by omega)).2.2 (by omega); omega)) (by simp) (fun _ => rfl) rfl ?_)
    simp -implicitDefEqProofs; refine hK _ ?_
    refine aw_ret (fin_ret ?_); simp -implicitDefEqProofs [FinP, resV, resT, large, hc] <;> try rfl
noncomputable def lgS (s : SLab) : Bool := decide (100 < s.p.length) || (decide (100 < s.n.length) || large s.t)
noncomputable def lgD (x : DLab) (lv : Int) : Bool := decide (lv ≤ 0) || (decide (60 < x.p.length) || lgS x.s)
theorem lgD_sm {x : DLab} {lv : Int} (h : lgD x lv = false) : smD x := by
  unfold lgD lgS at h
  simp only [Bool.or_eq_false_iff, decide_eq_false_iff_not] at h
  obtain ⟨-, h1, h2, h3, h4⟩ := h
  exact ⟨by omega, by omega, by omega, large_size h4⟩
noncomputable def cntD (t : DT) : Int → Int → Int := Tr.fold (fun x l bs left lv => if lgD x lv = true then -1 else bs.foldl (fun n f => if 0 ≤ n then f n (lv - 1) else n) (left - 1)) t
noncomputable def cdK (l : List DT) (lv n : Int) (k : Nat) : Int := (l.take k).foldl (fun n y => if 0 ≤ n then cntD y n (lv - 1) else n) n
theorem cd_mk (x : DLab) (l : List DT) (left lv : Int) : cntD (.mk x l) left lv = if lgD x lv = true then -1 else cdK l lv (left - 1) l.length := by
  unfold cntD
  rw [Tr.fold_mk]
  split
  · rfl
  · rw [List.foldl_map]; unfold cdK; rw [List.take_length]; rfl
theorem cdK_zero (l : List DT) (lv n : Int) : cdK l lv n 0 = n := by simp [cdK]
theorem cdK_succ {l : List DT} {lv n : Int} {k : Nat} {y : DT} (h : l[k]? = some y) : cdK l lv n (k + 1) = if 0 ≤ cdK l lv n k then cntD y (cdK l lv n k) (lv - 1) else cdK l lv n k := by
  unfold cdK
  rw [List.take_add_one, h, Option.toList_some, List.foldl_append]
  rfl
theorem cdK_neg {l : List DT} {lv n : Int} {k : Nat} (h : cdK l lv n k < 0) : ∀ j, k ≤ j → j ≤ l.length → cdK l lv n j = cdK l lv n k := fun j hj => by
  induction j with
  | zero => intro _; rw [show k = 0 by omega]
  | succ j ih =>
    intro hl
    by_cases hjk : k = j + 1
    · rw [hjk]
    · have hy : l[j]? = some (l[j]'(by omega)) := List.getElem?_eq_getElem _
      rw [cdK_succ hy, ih (by omega) (by omega), if_neg (by omega)]
theorem cd_le (t : DT) : ∀ left lv : Int, -1 ≤ left → cntD t left lv ≤ left ∧ -2 ≤ cntD t left lv ∧ (0 ≤ cntD t left lv → cntD t left lv + (t.size : Int) = left) := by
  induction t using Tr.ind with
  | h x l ih =>
    intro left lv h0
    rw [cd_mk]
    split
    · exact ⟨by omega, by omega, fun h => by omega⟩
    · have key : ∀ k, k ≤ l.length → cdK l lv (left - 1) k ≤ left - 1 ∧ -2 ≤ cdK l lv (left - 1) k ∧ (0 ≤ cdK l lv (left - 1) k → cdK l lv (left - 1) k + (((l.take k).map Tr.size).sum : Nat) = left - 1) := fun k => by
        induction k with
        | zero => intro _; rw [cdK_zero]; simp; omega
        | succ k ihk =>
          intro hk
          obtain ⟨a1, a2, a3⟩ := ihk (by omega)
          have hy : l[k]? = some (l[k]'(by omega)) := List.getElem?_eq_getElem _
          rw [cdK_succ hy]
          split
          · rename_i hge
            obtain ⟨b1, b2, b3⟩ := ih _ (List.mem_of_getElem? hy) (cdK l lv (left - 1) k) (lv - 1) (by omega)
            refine ⟨by omega, b2, fun h => ?_⟩
            have c1 := b3 h; have c2 := a3 hge
            rw [List.take_add_one, hy]
            simp only [Option.toList_some, List.map_append, List.map_cons, List.map_nil, List.sum_append, List.sum_cons, List.sum_nil]
            omega
          · exact ⟨a1, a2, fun h => by omega⟩
      obtain ⟨b1, b2, b3⟩ := key l.length (Nat.le_refl _)
      refine ⟨by omega, b2, fun h => ?_⟩
      have := b3 h
      rw [List.take_length] at this
      rw [Tr.size_mk]
      omega
theorem cd_sm (t : DT) : ∀ left lv : Int, -1 ≤ left → 0 ≤ cntD t left lv → Tr.all smD t := by
  induction t using Tr.ind with
  | h x l ih =>
    intro left lv h0 hc
    rw [cd_mk] at hc
    by_cases hg : lgD x lv = true
    · rw [if_pos hg] at hc; omega
    rw [if_neg hg] at hc
    refine (Tr.all_mk _ _ _).2 ⟨lgD_sm (Bool.eq_false_iff.2 hg), fun y hy => ?_⟩
    obtain ⟨i, hi⟩ := List.mem_iff_getElem?.1 hy
    have hil := (List.getElem?_eq_some_iff.1 hi).1
    have h1 : 0 ≤ cdK l lv (left - 1) (i + 1) := by
      rcases Int.lt_or_le (cdK l lv (left - 1) (i + 1)) 0 with h | h
      · rw [cdK_neg h l.length (by omega) (Nat.le_refl _)] at hc; omega
      · exact h
    have h2 : 0 ≤ cdK l lv (left - 1) i := by
      rcases Int.lt_or_le (cdK l lv (left - 1) i) 0 with h | h
      · rw [cdK_neg h (i + 1) (by omega) (by omega)] at h1; omega
      · exact h
    rw [cdK_succ hi, if_pos h2] at h1
    exact ih y hy _ (lv - 1) (by omega) h1
noncomputable def largeD (d : DT) : Bool := decide (cntD d 80 20 < 0)
theorem largeD_ok {d : DT} (h : largeD d = false) : d.size ≤ 80 ∧ Tr.all smD d := by
  unfold largeD at h
  have h1 : ¬ cntD d 80 20 < 0 := by simpa using h
  have := (cd_le d 80 20 (by omega)).2.2 (by omega)
  exact ⟨by omega, cd_sm d 80 20 (by omega) (by omega)⟩
theorem rlargeS_row (s : SLab) : Row Try.prog 55 [vSt36 s] [] (vB (lgS s)) [] := by
  have hlg := rlarge_row s.t
  unfold lgS
  obtain ⟨r, b, p, n, t⟩ := s
  dsimp only at hlg ⊢
  obtain ⟨c, hc⟩ : ∃ c, large t = c := ⟨_, rfl⟩
  rw [hc] at hlg ⊢
  clear hc
  obtain ⟨x, l⟩ := t
  by_cases h1 : 100 < p.length
  · rw [decide_eq_true h1]
    have i1 : (100 : Int) < p.length := by omega
    refine row_of Try.func55 rfl rfl (Nat.le_of_ble_eq_true rfl) ?_
    repeat (first | refine aw_seq ?_ | refine aw_skip ?_ | refine aw_block ?_ | refine aw_exit ?_ | refine aw_ct rfl ?_ | refine aw_cf rfl ?_ | ((first | refine aw_reg (fun K hK => ?_) | refine aw_drw mixd (fun K hK => ?_) | fail); simp -implicitDefEqProofs [h1, i1]; first | refine hK _ ?_ | refine hK _ _ (by rfl) ?_ | fail) | fail)
    refine aw_ret (fin_ret ?_); simp -implicitDefEqProofs [FinP, resV, resT] <;> try rfl
  rw [decide_eq_false h1]
  have i1 : ¬ (100 : Int) < p.length := by omega
  by_cases h2 : 100 < n.length
  · rw [decide_eq_true h2]
    have i2 : (100 : Int) < n.length := by omega
    refine row_of Try.func55 rfl rfl (Nat.le_of_ble_eq_true rfl) ?_
    repeat (first | refine aw_seq ?_ | refine aw_skip ?_ | refine aw_block ?_ | refine aw_exit ?_ | refine aw_ct rfl ?_ | refine aw_cf rfl ?_ | ((first | refine aw_reg (fun K hK => ?_) | refine aw_drw mixd (fun K hK => ?_) | fail); simp -implicitDefEqProofs [h1, h2, i1, i2]; first | refine hK _ ?_ | refine hK _ _ (by rfl) ?_ | fail) | fail)
    refine aw_ret (fin_ret ?_); simp -implicitDefEqProofs [FinP, resV, resT] <;> try rfl
  rw [decide_eq_false h2]
  have i2 : ¬ (100 : Int) < n.length := by omega
  refine row_of Try.func55 rfl rfl (Nat.le_of_ble_eq_true rfl) ?_
  repeat' (first | refine aw_seq ?_ | refine aw_skip ?_ | refine aw_block ?_ | refine aw_exit ?_ | refine aw_ct rfl ?_ | refine aw_cf rfl ?_ | ((first | refine aw_reg (fun K hK => ?_) | refine aw_drw mixd (fun K hK => ?_) | refine ar_call (cp hlg ?_) | refine ard_call (dp hlg ?_) | fail); simp -implicitDefEqProofs [h1, h2, i1, i2]) | refine hK _ ?_ | refine hK _ _ (by rfl) ?_ | fail)
  refine aw_ret (fin_ret ?_); simp -implicitDefEqProofs [FinP, resV, resT] <;> try rfl
theorem cdK_len {l : List DT} {lv n : Int} : ∀ k, k ≤ l.length → cdK l lv n k ≤ n ∧ (0 ≤ cdK l lv n k → cdK l lv n k + k ≤ n) := fun k => by
  induction k with
  | zero => intro _; rw [cdK_zero]; omega
  | succ k ih =>
    intro hk
    obtain ⟨i1, i2⟩ := ih (by omega)
    have hy : l[k]? = some (l[k]'(by omega)) := List.getElem?_eq_getElem _
    rw [cdK_succ hy]
    split
    · rename_i hc
      have h1 := cd_le (l[k]'(by omega)) (cdK l lv n k) (lv - 1) (by omega)
      have h2 := Tr.size_pos (l[k]'(by omega))
      have h3 := i2 hc
      refine ⟨by omega, fun h => ?_⟩
      have := h1.2.2 h
      omega
    · rename_i hc; exact ⟨i1, fun h => absurd h hc⟩
theorem rcntD_row (t : DT) : ∀ left lv : Int, 0 ≤ left → left ≤ 1000000 → lv ≤ 1000 → -1000000 ≤ lv → Row Try.prog 29 [vD t, vI left, vI lv] [] (vI (cntD t left lv)) [] := by
  induction t using Tr.ind with
  | h x l ih =>
  intro left lv h0 h1 h2 h3
  have hlen := Tr.len_size (x := x) (l := l)
  have hlg := rlargeS_row x.s
  rw [cd_mk]
  unfold lgD
  obtain ⟨c, hc⟩ : ∃ c, lgS x.s = c := ⟨_, rfl⟩
  rw [hc] at hlg ⊢
  obtain ⟨ak, ap, ⟨ar, ab, asp, asn, ⟨ax, atl⟩⟩⟩ := x
  dsimp only at hlg ⊢
  clear hc
  by_cases hl : lv ≤ 0
  · rw [decide_eq_true hl, if_pos (by simp)]
    refine row_of Try.func29 rfl rfl (Nat.le_of_ble_eq_true rfl) ?_
    repeat (first | refine aw_seq ?_ | refine aw_skip ?_ | refine aw_block ?_ | refine aw_exit ?_ | refine aw_ct rfl ?_ | refine aw_cf rfl ?_ | ((first | refine aw_reg (fun K hK => ?_) | refine aw_drw mixd (fun K hK => ?_) | fail); simp -implicitDefEqProofs [hl]; first | refine hK _ ?_ | refine hK _ _ (by rfl) ?_ | fail) | fail)
    refine aw_ret (fin_ret ?_); simp -implicitDefEqProofs [FinP, resV, resT] <;> try rfl
  rw [decide_eq_false hl]
  by_cases hp : 60 < ap.length
  · have ip : (60 : Int) < ap.length := by omega
    rw [decide_eq_true hp, if_pos (by simp)]
    refine row_of Try.func29 rfl rfl (Nat.le_of_ble_eq_true rfl) ?_
    repeat (first | refine aw_seq ?_ | refine aw_skip ?_ | refine aw_block ?_ | refine aw_exit ?_ | refine aw_ct rfl ?_ | refine aw_cf rfl ?_ | ((first | refine aw_reg (fun K hK => ?_) | refine aw_drw mixd (fun K hK => ?_) | fail); simp -implicitDefEqProofs [hl, hp, ip]; first | refine hK _ ?_ | refine hK _ _ (by rfl) ?_ | fail) | fail)
    refine aw_ret (fin_ret ?_); simp -implicitDefEqProofs [FinP, resV, resT] <;> try rfl
  have ip : ¬ (60 : Int) < ap.length := by omega
  rw [decide_eq_false hp]
  cases c; rotate_left
  · rw [if_pos (by simp)]
    refine row_of Try.func29 rfl rfl (Nat.le_of_ble_eq_true rfl) ?_
    repeat' (first | refine aw_seq ?_ | refine aw_skip ?_ | refine aw_block ?_ | refine aw_exit ?_ | refine aw_ct rfl ?_ | refine aw_cf rfl ?_ | ((first | refine aw_reg (fun K hK => ?_) | refine aw_drw mixd (fun K hK => ?_) | refine ar_call (cp hlg ?_) | refine ard_call (dp hlg ?_) | fail); simp -implicitDefEqProofs [hl, hp, ip]) | refine hK _ ?_ | refine hK _ _ (by rfl) ?_ | fail)
    refine aw_ret (fin_ret ?_); simp -implicitDefEqProofs [FinP, resV, resT] <;> try rfl
  rw [if_neg (by simp)]
  have w1 : IntKind.i64.wrap (left - 1) = left - 1 := i64i _ (by omega) (by omega)
  have w3 : IntKind.i64.wrap (lv - 1) = lv - 1 := i64i _ (by omega) (by omega)
  refine row_of Try.func29 rfl rfl (Nat.le_of_ble_eq_true rfl) ?_
  repeat' (first | refine aw_seq ?_ | refine aw_skip ?_ | refine aw_block ?_ | refine aw_exit ?_ | refine aw_ct rfl ?_ | refine aw_cf rfl ?_ | ((first | refine aw_reg (fun K hK => ?_) | refine aw_drw mixd (fun K hK => ?_) | refine ar_call (cp hlg ?_) | refine ard_call (dp hlg ?_) | fail); simp -implicitDefEqProofs [hl, hp, ip, w1]) | refine hK _ ?_ | refine hK _ _ (by rfl) ?_ | fail)
  refine aw_lp (ι := Nat) (fun k => mkSt [(1, vI (cdK l lv (left - 1) k)), (2, vI lv), (3, .v (.c (.ptr 0 0))), (7, vI (k : Nat))] [some (.box [.pv (I ak), .pv (Is ap), .pv (I ar), .pv (Bo ab), .pv (Is asp), .pv (Is asn), .pv (I ax.k), .pv (I ax.n), .pv (Sx ax.s), .pv (.sl 6 (atl.map tc)), .pv (I ax.f), .pv (I ax.t), .pv (.sl 13 (l.map dc))])]) (fun k => k ≤ l.length ∧ -2 ≤ cdK l lv (left - 1) k ∧ cdK l lv (left - 1) k ≤ left) (fun k => l.length - k) 0 ⟨Nat.zero_le _, by rw [cdK_zero]; omega, by rw [cdK_zero]; omega⟩ (cov_intro [0] (by simp -implicitDefEqProofs [cdK_zero]) (by simp -implicitDefEqProofs [cdK_zero]) (by decide) rfl (by simp)) (fun Z hI k hkz => ?_)
  obtain ⟨hk, hc1, hc2⟩ := hkz
  by_cases hkl : k < l.length; rotate_left
  · have : k = l.length := by omega
    subst this
    repeat (first | refine aw_seq ?_ | refine aw_skip ?_ | refine aw_block ?_ | refine aw_exit ?_ | refine aw_ct rfl ?_ | refine aw_cf rfl ?_ | ((first | refine aw_reg (fun K hK => ?_) | refine aw_drw mixd (fun K hK => ?_) | fail); simp -implicitDefEqProofs; first | refine hK _ ?_ | refine hK _ _ (by rfl) ?_ | fail) | fail)
    refine aw_ret (fin_ret ?_); simp -implicitDefEqProofs [FinP, resV, resT] <;> try rfl
  by_cases hc : 0 ≤ cdK l lv (left - 1) k; rotate_left
  · have := cdK_neg (l := l) (lv := lv) (n := left - 1) (k := k) (by omega) l.length hk (Nat.le_refl _)
    rw [this]
    repeat (first | refine aw_seq ?_ | refine aw_skip ?_ | refine aw_block ?_ | refine aw_exit ?_ | refine aw_ct rfl ?_ | refine aw_cf rfl ?_ | ((first | refine aw_reg (fun K hK => ?_) | refine aw_drw mixd (fun K hK => ?_) | fail); simp -implicitDefEqProofs [hkl, hc]; first | refine hK _ ?_ | refine hK _ _ (by rfl) ?_ | fail) | fail)
    refine aw_ret (fin_ret ?_); simp -implicitDefEqProofs [FinP, resV, resT] <;> try rfl
  obtain ⟨a, ha⟩ : ∃ a, l[k]? = some a := ⟨_, List.getElem?_eq_getElem hkl⟩
  have ha' := (List.getElem?_eq_some_iff.1 ha).2
  have hcs := cdK_succ (lv := lv) (n := left - 1) ha
  have hkn := (cdK_len (l := l) (lv := lv) (n := left - 1) k hk).2 hc
  have w2 : IntKind.i64.wrap ((k : Nat) + 1 : Int) = (k : Nat) + 1 := i64i _ (by omega) (by omega)
  rw [if_pos hc] at hcs
  have hle := cd_le a (cdK l lv (left - 1) k) (lv - 1) (by omega)
  have hr := ih a (List.mem_of_getElem? ha) (cdK l lv (left - 1) k) (lv - 1) (by omega) (by omega) (by omega) (by omega)
  obtain ⟨v, hv⟩ : ∃ v, cntD a (cdK l lv (left - 1) k) (lv - 1) = v := ⟨_, rfl⟩
  rw [hv] at hcs hle hr
  clear ih hv
  obtain ⟨⟨bk, bp, ⟨br, bb, bsp, bsn, ⟨bx, btl⟩⟩⟩, bl⟩ := a
  repeat' (first | refine aw_seq ?_ | refine aw_skip ?_ | refine aw_block ?_ | refine aw_exit ?_ | refine aw_ct rfl ?_ | refine aw_cf rfl ?_ | ((first | refine aw_reg (fun K hK => ?_) | refine aw_drw mixd (fun K hK => ?_) | refine ar_call (cp hr ?_) | refine ard_call (dp hr ?_) | fail); simp -implicitDefEqProofs [hkl, hc, ha, ha', w2, w3]) | refine hK _ ?_ | refine hK _ _ (by rfl) ?_ | fail)
  refine ⟨k + 1, ⟨by omega, by rw [hcs]; omega, by rw [hcs]; omega⟩, (by dsimp only; omega), ?_⟩
  rw [hI]; simp only [hcs]; exact cov_intro [0] (by simp -implicitDefEqProofs) (by simp -implicitDefEqProofs) (by decide) rfl (by simp)
theorem rlargeD_row (t : DT) : Row Try.prog 13 [vD t] [] (vB (largeD t)) [] := by
  have hc := rcntD_row t 80 20 (by omega) (by omega) (by omega) (by omega)
  unfold largeD
  obtain ⟨v, hv⟩ : ∃ v, cntD t 80 20 = v := ⟨_, rfl⟩
  rw [hv] at hc ⊢
  clear hv
  obtain ⟨⟨bk, bp, ⟨br, bb, bsp, bsn, ⟨bx, btl⟩⟩⟩, bl⟩ := t
  refine row_of Try.func13 rfl rfl (Nat.le_of_ble_eq_true rfl) ?_
  repeat' (first | refine aw_seq ?_ | refine aw_skip ?_ | refine aw_block ?_ | refine aw_exit ?_ | refine aw_ct rfl ?_ | refine aw_cf rfl ?_ | ((first | refine aw_reg (fun K hK => ?_) | refine aw_drw mixd (fun K hK => ?_) | refine ar_call (cp hc ?_) | refine ard_call (dp hc ?_) | fail); simp -implicitDefEqProofs) | refine hK _ ?_ | refine hK _ _ (by rfl) ?_ | fail)
  refine aw_ret (fin_ret ?_); simp -implicitDefEqProofs [FinP, resV, resT] <;> try rfl
end Go.Proofs.Ytcjagcfjpfjanaa.am
end
