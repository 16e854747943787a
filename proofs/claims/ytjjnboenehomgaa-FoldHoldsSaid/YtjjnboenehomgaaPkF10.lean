import Derived.Test.YtjjnboenehomgaaPkF9
section
namespace Go.Proofs.Ytjjnboenehomgaa.am
open Go.ChangeShapes Go.WideShapes Go.ChangeAt Go.RowKit
open vt
set_option linter.unusedVariables false
set_option linter.unusedSimpArgs false
theorem prtN_cases (k : Int) : prtN k = (-1, 0) ∨ ∃ n b : Nat, prtN k = ((n : Int), (b : Int)) ∧ b ≤ n ∧ n ≤ 3 := by
  unfold prtN
  split
  · exact .inr ⟨1, 0, rfl, by omega, by omega⟩
  · split
    · exact .inr ⟨2, 0, rfl, by omega, by omega⟩
    · split
      · exact .inr ⟨3, 2, rfl, by omega, by omega⟩
      · split
        · exact .inr ⟨2, 1, rfl, by omega, by omega⟩
        · split
          · exact .inr ⟨3, 1, rfl, by omega, by omega⟩
          · exact .inl rfl
theorem drop_all {l : List VT} {s : Nat} {p : VT → Bool} (h : ∀ j y, s ≤ j → l[j]? = some y → p y = true) : (l.drop s).all p = true := by
  rw [List.all_eq_true]
  intro y hy
  obtain ⟨i, hi⟩ := List.mem_iff_getElem?.1 hy
  rw [List.getElem?_drop] at hi
  exact h (s + i) y (by omega) hi
theorem drop_no {l : List VT} {s j : Nat} {y : VT} {p : VT → Bool} (hj : s ≤ j) (hy : l[j]? = some y) (hp : p y = false) : (l.drop s).all p = false := by
  rw [List.all_eq_false]
  refine ⟨y, List.mem_iff_getElem?.2 ⟨j - s, ?_⟩, by rw [hp]; simp⟩
  rw [List.getElem?_drop, show s + (j - s) = j by omega]
  exact hy
set_option maxRecDepth 100000 in
set_option maxHeartbeats 4000000 in
theorem rshape_row (x : Lab) (l : List VT) (hsz : (Tr.mk x l).size ≤ 1000000) : Row Try.prog 123 [vT (.mk x l)] [] (vB (shpS x l)) [] := by
  have hlen := Tr.len_size (x := x) (l := l)
  by_cases c29 : x.k = 29
  · unfold shpS
    rw [if_pos c29]
    refine row_of Try.func123 rfl rfl (Nat.le_of_ble_eq_true rfl) ?_
    repeat (first | refine aw_seq ?_ | refine aw_skip ?_ | refine aw_block ?_ | refine aw_exit ?_ | refine aw_cond rfl (fun _ => ?_) (fun hb => absurd hb (by decide)) | refine aw_cond rfl (fun hb => absurd hb (by decide)) (fun _ => ?_) | (refine aw_reg (fun K hK => ?_); simp -implicitDefEqProofs [c29]; refine hK _ ?_) | (refine aw_drw mixd (fun K hK => ?_); simp -implicitDefEqProofs [c29]; refine hK _ _ (by rfl) ?_) | fail)
    refine aw_ret (fin_ret ?_); simp -implicitDefEqProofs [FinP, resV, resT] <;> try rfl
  have hp := rparts_row x.k
  have hs : shpS x l = (decide ((l.length : Int) = (prtN x.k).1) && (l.drop ((prtN x.k).1 - (prtN x.k).2).toNat).all blkB) := by unfold shpS; rw [if_neg c29]
  rcases prtN_cases x.k with e | ⟨n, b, e, hb, hn⟩
  · rw [e] at hp hs
    dsimp only at hp hs
    have h1 : ¬ (l.length : Int) = -1 := by omega
    rw [decide_eq_false h1, Bool.false_and] at hs
    rw [hs]
    clear hs e
    refine row_of Try.func123 rfl rfl (Nat.le_of_ble_eq_true rfl) ?_
    repeat' (first | refine aw_seq ?_ | refine aw_skip ?_ | refine aw_block ?_ | refine aw_exit ?_ | refine aw_cond rfl (fun _ => ?_) (fun hb => absurd hb (by decide)) | refine aw_cond rfl (fun hb => absurd hb (by decide)) (fun _ => ?_) | (refine aw_reg (fun K hK => ?_); simp -implicitDefEqProofs [c29, h1]) | (refine aw_drw mixd (fun K hK => ?_); simp -implicitDefEqProofs [c29, h1]) | refine hK _ ?_ | refine hK _ _ (by rfl) ?_ | (refine ar_call (cp hp ?_); simp -implicitDefEqProofs [c29, h1]) | (refine ard_call (dp hp ?_); simp -implicitDefEqProofs [c29, h1]) | fail)
    refine aw_ret (fin_ret ?_); simp -implicitDefEqProofs [FinP, resV, resT] <;> try rfl
  rw [e] at hp hs
  dsimp only at hp hs
  by_cases hl : l.length = n; rotate_left
  · have h1 : ¬ (l.length : Int) = (n : Nat) := by omega
    rw [decide_eq_false h1, Bool.false_and] at hs
    rw [hs]
    clear hs e
    refine row_of Try.func123 rfl rfl (Nat.le_of_ble_eq_true rfl) ?_
    repeat' (first | refine aw_seq ?_ | refine aw_skip ?_ | refine aw_block ?_ | refine aw_exit ?_ | refine aw_cond rfl (fun _ => ?_) (fun hb => absurd hb (by decide)) | refine aw_cond rfl (fun hb => absurd hb (by decide)) (fun _ => ?_) | (refine aw_reg (fun K hK => ?_); simp -implicitDefEqProofs [c29, h1, hl]) | (refine aw_drw mixd (fun K hK => ?_); simp -implicitDefEqProofs [c29, h1, hl]) | refine hK _ ?_ | refine hK _ _ (by rfl) ?_ | (refine ar_call (cp hp ?_); simp -implicitDefEqProofs [c29, h1, hl]) | (refine ard_call (dp hp ?_); simp -implicitDefEqProofs [c29, h1, hl]) | fail)
    refine aw_ret (fin_ret ?_); simp -implicitDefEqProofs [FinP, resV, resT] <;> try rfl
  subst hl
  rw [decide_eq_true rfl, Bool.true_and] at hs
  obtain ⟨s, hsb⟩ : ∃ s : Nat, l.length - b = s := ⟨_, rfl⟩
  have w1 : IntKind.i64.wrap ((l.length : Nat) - (b : Nat) : Int) = (s : Nat) := by rw [i64i _ (by omega) (by omega)]; omega
  rw [show ((l.length : Int) - (b : Int)).toNat = s by omega] at hs
  rw [hs]
  have hno := fun j y h1 h2 h3 => drop_no (l := l) (s := s) (j := j) (y := y) (p := blkB) h1 h2 h3
  have hyes := drop_all (l := l) (s := s) (p := blkB)
  obtain ⟨R, hR⟩ : ∃ R, (l.drop s).all blkB = R := ⟨_, rfl⟩
  rw [hR] at hno hyes ⊢
  clear hs e hR
  refine row_of Try.func123 rfl rfl (Nat.le_of_ble_eq_true rfl) ?_
  repeat' (first | refine aw_seq ?_ | refine aw_skip ?_ | refine aw_block ?_ | refine aw_exit ?_ | refine aw_cond rfl (fun _ => ?_) (fun hb => absurd hb (by decide)) | refine aw_cond rfl (fun hb => absurd hb (by decide)) (fun _ => ?_) | (refine aw_reg (fun K hK => ?_); simp -implicitDefEqProofs [c29, w1]) | (refine aw_drw mixd (fun K hK => ?_); simp -implicitDefEqProofs [c29, w1]) | refine hK _ ?_ | refine hK _ _ (by rfl) ?_ | (refine ar_call (cp hp ?_); simp -implicitDefEqProofs [c29, w1]) | (refine ard_call (dp hp ?_); simp -implicitDefEqProofs [c29, w1]) | fail)
  refine aw_lp (ι := Nat) (fun k => mkSt [(1, .v (.c (.ptr 0 0))), (3, vI (l.length : Nat)), (5, vI (k : Nat))] [some (.box (ta (.mk x l)))]) (fun k => s ≤ k ∧ k ≤ l.length ∧ ∀ j y, s ≤ j → j < k → l[j]? = some y → blkB y = true) (fun k => l.length - k) s ⟨Nat.le_refl _, by omega, fun j y h1 h2 => by omega⟩ (cov_intro [0] (by simp -implicitDefEqProofs) (by simp -implicitDefEqProofs) (by decide) rfl (by simp)) (fun Z hI k hk => ?_)
  obtain ⟨hk0, hk, hz⟩ := hk
  by_cases hkl : k < l.length; rotate_left
  · have : k = l.length := by omega
    subst this
    have hR := hyes (fun j y h1 h2 => hz j y h1 (List.getElem?_eq_some_iff.1 h2).1 h2)
    subst hR
    clear hno hyes
    repeat (first | refine aw_seq ?_ | refine aw_skip ?_ | refine aw_block ?_ | refine aw_exit ?_ | refine aw_cond rfl (fun _ => ?_) (fun hb => absurd hb (by decide)) | refine aw_cond rfl (fun hb => absurd hb (by decide)) (fun _ => ?_) | (refine aw_reg (fun K hK => ?_); simp -implicitDefEqProofs; refine hK _ ?_) | (refine aw_drw mixd (fun K hK => ?_); simp -implicitDefEqProofs; refine hK _ _ (by rfl) ?_) | fail)
    refine aw_ret (fin_ret ?_); simp -implicitDefEqProofs [FinP, resV, resT] <;> try rfl
  obtain ⟨⟨ax, al⟩, ha⟩ : ∃ a, l[k]? = some a := ⟨_, List.getElem?_eq_getElem hkl⟩
  have ha' := (List.getElem?_eq_some_iff.1 ha).2
  have w2 : IntKind.i64.wrap ((k : Nat) + 1 : Int) = (k : Nat) + 1 := i64i _ (by omega) (by omega)
  by_cases ak : ax.k = 29
  · clear hno hyes
    repeat (first | refine aw_seq ?_ | refine aw_skip ?_ | refine aw_block ?_ | refine aw_exit ?_ | refine aw_cond rfl (fun _ => ?_) (fun hb => absurd hb (by decide)) | refine aw_cond rfl (fun hb => absurd hb (by decide)) (fun _ => ?_) | (refine aw_reg (fun K hK => ?_); simp -implicitDefEqProofs [hkl, ha, ha', ak, w2]; refine hK _ ?_) | (refine aw_drw mixd (fun K hK => ?_); simp -implicitDefEqProofs [hkl, ha, ha', ak, w2]; refine hK _ _ (by rfl) ?_) | fail)
    refine ⟨k + 1, ⟨by omega, by omega, fun j y h1 h2 h3 => ?_⟩, (by dsimp only; omega), ?_⟩
    · by_cases hj : j = k
      · subst hj; rw [ha] at h3; cases h3; unfold blkB; simp [Tr.lab, ak]
      · exact hz j y h1 (by omega) h3
    · rw [hI]; exact cov_intro [0] (by simp -implicitDefEqProofs) (by simp -implicitDefEqProofs) (by decide) rfl (by simp)
  · have hR := hno k _ hk0 ha (by unfold blkB; simp [Tr.lab, ak])
    subst hR
    clear hno hyes
    repeat (first | refine aw_seq ?_ | refine aw_skip ?_ | refine aw_block ?_ | refine aw_exit ?_ | refine aw_cond rfl (fun _ => ?_) (fun hb => absurd hb (by decide)) | refine aw_cond rfl (fun hb => absurd hb (by decide)) (fun _ => ?_) | (refine aw_reg (fun K hK => ?_); simp -implicitDefEqProofs [hkl, ha, ha', ak]; refine hK _ ?_) | (refine aw_drw mixd (fun K hK => ?_); simp -implicitDefEqProofs [hkl, ha, ha', ak]; refine hK _ _ (by rfl) ?_) | fail)
    refine aw_ret (fin_ret ?_); simp -implicitDefEqProofs [FinP, resV, resT] <;> try rfl
structure Cn (m : VT) (L : List VT) (ret : VT) (B sz : Nat) : Prop where
  hm : Fine B m
  hL : ∀ t ∈ L, Fine B t
  len : L.length + sz ≤ 400000
  le : B + sz ≤ 400000
  ret : Fine 400000 ret
theorem Cn.less {m : VT} {L : List VT} {ret : VT} {B sz sz' : Nat} (h : Cn m L ret B sz) (hs : sz' ≤ sz) : Cn m L ret B sz' := ⟨h.hm, h.hL, by have := h.len; omega, by have := h.le; omega, h.ret⟩
end Go.Proofs.Ytjjnboenehomgaa.am
end
section
namespace Go.Proofs.Ytjjnboenehomgaa.am
open Go.ChangeShapes Go.WideShapes Go.ChangeAt Go.RowKit
open vt
set_option linter.unusedVariables false
set_option linter.unusedSimpArgs false
theorem brgT_cn {m : VT} {L : List VT} {ret : VT} {B sz : Nat} {t : VT} (h : Cn m L ret B (t.size + sz)) (ht : in64 t) : Cn m (brgT m L t) ret (B + t.size) sz := by
  have hlen := h.len
  have hle := h.le
  have hL : ∀ y ∈ L, Fine (B + t.size) y := fun y hy => (h.hL y hy).le (by omega)
  obtain ⟨x, l⟩ := t
  have hp := Tr.size_pos (Tr.mk x l)
  unfold brgT
  rw [Tr.lab, Tr.kids]
  have hin : ∀ z, l.length = 1 → Fine (B + (Tr.mk x l).size) z → Cn m (L ++ [z]) ret (B + (Tr.mk x l).size) sz := fun z _ hz => ⟨h.hm.le (by omega), fun y hy => by
    rcases List.mem_append.1 hy with hy | hy
    · exact hL y hy
    · simp at hy; subst hy; exact hz, by simp; omega, by omega, h.ret⟩
  split
  · rename_i hc
    obtain ⟨a, rfl⟩ := one_of hc.2
    have hs := Tr.size_at (x := x) (l := [a]) (i := 0) rfl
    have := (ofT_ok h.hm (by have := h.hm.2; omega) h.hL a (((Tr.all_mk _ _ _).1 ht).2 a (by simp)) (by omega)).ty
    exact hin _ hc.2 (this.le (by omega))
  · split
    · rename_i hc
      obtain ⟨a, rfl⟩ := one_of hc.2
      have hs := Tr.size_at (x := x) (l := [a]) (i := 0) rfl
      refine hin _ hc.2 ⟨((Tr.all_mk _ _ _).1 ht).2 a (by simp), ?_⟩
      show a.size ≤ _
      omega
    · exact ⟨h.hm.le (by omega), hL, by omega, by omega, h.ret⟩
def StR (m ret y : VT) : Prop := ∀ L B, Cn m L ret B y.size → Row Try.prog 116 [vT m, vLs L, vT ret, vT y] [] (vGr (stmT m ret y L)) []
def BlR (m ret y : VT) : Prop := ∀ L B, Cn m L ret B y.size → Row Try.prog 100 [vT m, vLs L, vT ret, vT y] [] (vGr (blkT m ret y.lab y.kids L [])) []
set_option maxRecDepth 100000 in
set_option maxHeartbeats 4000000 in
theorem rblock_row (m ret : VT) (x : Lab) (l : List VT) (ht : in64 (.mk x l)) (ih : ∀ y ∈ l, StR m ret y) : BlR m ret (.mk x l) := by
  intro L B hc
  have hlen := Tr.len_size (x := x) (l := l)
  have hcl := hc.len
  have hcB := hc.le
  have hsum : (l.map Tr.size).sum + 1 = (Tr.mk x l).size := by rw [Tr.size_mk]; omega
  rw [Tr.lab, Tr.kids]
  obtain ⟨R, hR⟩ : ∃ R, blkT m ret x l L [] = R := ⟨_, rfl⟩
  rw [hR]
  have hc0 : Cn m L ret B (l.map Tr.size).sum := hc.less (by omega)
  clear hc
  have hbr := fun (L : List VT) (B sz : Nat) (h : Cn m L ret B sz) (t : VT) (ht : in64 t) (hs : t.size ≤ 400000) => rbrings_row m L B h.hm h.hL (by have := h.le; omega) (by have := h.len; omega) t ht hs
  obtain ⟨⟨mx, ml⟩, rfl⟩ : ∃ q, m = q := ⟨_, rfl⟩
  obtain ⟨⟨rx, rl⟩, rfl⟩ : ∃ q, ret = q := ⟨_, rfl⟩
  refine row_of Try.func100 rfl rfl (Nat.le_of_ble_eq_true rfl) ?_
  repeat (first | refine aw_seq ?_ | refine aw_skip ?_ | refine aw_block ?_ | refine aw_exit ?_ | refine aw_cond rfl (fun _ => ?_) (fun hb => absurd hb (by decide)) | refine aw_cond rfl (fun hb => absurd hb (by decide)) (fun _ => ?_) | (refine aw_reg (fun K hK => ?_); simp -implicitDefEqProofs; refine hK _ ?_) | (refine aw_drw mixd (fun K hK => ?_); simp -implicitDefEqProofs; refine hK _ _ (by rfl) ?_) | fail)
  refine aw_lp (ι := Nat × List VT × List VT) (fun i => mkSt [(1, vLs i.2.1), (4, .v (.c (.ptr 0 0))), (6, .v (.c (.ptr 1 0))), (7, .v (.c (.ptr 2 0))), (8, .v (.c (.ptr 3 0))), (9, .v (.c (.ptr 4 0))), (10, vI (i.1 : Nat))] [some (.box (ta (.mk mx ml))), some (.box (ta (.mk rx rl))), some (.box (ta (.mk x l))), some (.box (ta z0T ++ [.pv (I 0), .pv (I 0)])), some (.box [.pv (I x.k), .pv (I x.n), .pv (Sx ⟨#[]⟩), .row 5 6 (i.2.2.map tc), .pv (I 0), .pv (I 0)]), some (.row 24 6)]) (fun i => i.1 ≤ l.length ∧ i.2.2.length = i.1 ∧ blkT (.mk mx ml) (.mk rx rl) x (l.drop i.1) i.2.1 i.2.2 = R ∧ ∃ C, Cn (.mk mx ml) i.2.1 (.mk rx rl) C ((l.drop i.1).map Tr.size).sum) (fun i => l.length - i.1) (0, L, []) ⟨Nat.zero_le _, rfl, hR, B, hc0⟩ (cov_intro [0, 1, 2, 3, 10, 8] (by simp -implicitDefEqProofs) (by simp -implicitDefEqProofs) (by decide) rfl (by simp)) (fun Z hI i hi => ?_)
  obtain ⟨k, LK, AK⟩ := i
  obtain ⟨hk, hal, hz, C, hC⟩ := hi
  dsimp only at hk hal hz hC ⊢
  by_cases hkl : k < l.length; rotate_left
  · have : k = l.length := by omega
    subst this
    rw [List.drop_length] at hz
    unfold blkT at hz
    subst hz
    repeat (first | refine aw_seq ?_ | refine aw_skip ?_ | refine aw_block ?_ | refine aw_exit ?_ | refine aw_cond rfl (fun _ => ?_) (fun hb => absurd hb (by decide)) | refine aw_cond rfl (fun hb => absurd hb (by decide)) (fun _ => ?_) | (refine aw_reg (fun K hK => ?_); simp -implicitDefEqProofs; refine hK _ ?_) | (refine aw_drw mixd (fun K hK => ?_); simp -implicitDefEqProofs; refine hK _ _ (by rfl) ?_) | fail)
    refine aw_ret (fin_ret ?_); simp -implicitDefEqProofs [FinP, resV, resT] <;> try rfl
  obtain ⟨⟨ax, al⟩, ha⟩ : ∃ a, l[k]? = some a := ⟨_, List.getElem?_eq_getElem hkl⟩
  have ha' := (List.getElem?_eq_some_iff.1 ha).2
  have hmem := List.mem_of_getElem? ha
  have hin := ((Tr.all_mk _ x l).1 ht).2 _ hmem
  have hsz1 := Tr.size_at (x := x) ha
  have hd : l.drop k = .mk ax al :: l.drop (k + 1) := by rw [List.drop_eq_getElem_cons hkl, ha']
  rw [hd] at hz hC
  rw [List.map_cons, List.sum_cons] at hC
  have hc := ih _ hmem LK C (hC.less (by omega))
  have hb := hbr LK C _ hC (.mk ax al) hin (by have := hC.le; omega)
  have hn := brgT_cn hC hin
  have w2 : IntKind.i64.wrap ((k : Nat) + 1 : Int) = (k : Nat) + 1 := i64i _ (by omega) (by omega)
  have b1 : (k + 1) * 72 ≤ 140737488355328 := by omega
  have b2 : k + 1 ≤ 140737488355328 := by omega
  unfold blkT at hz
  obtain ⟨⟨⟨bx, bl⟩, gp, ge⟩, hG⟩ : ∃ g, stmT (.mk mx ml) (.mk rx rl) (.mk ax al) LK = g := ⟨_, rfl⟩
  rw [hG] at hc hz
  obtain ⟨LN, hLN⟩ : ∃ LN, brgT (.mk mx ml) LK (.mk ax al) = LN := ⟨_, rfl⟩
  rw [hLN] at hb hz hn
  clear hG hLN hd hin hC ih hbr
  by_cases he : ge = 0
  · subst he
    rw [if_pos rfl] at hz
    repeat' (first | refine aw_seq ?_ | refine aw_skip ?_ | refine aw_block ?_ | refine aw_exit ?_ | refine aw_cond rfl (fun _ => ?_) (fun hb => absurd hb (by decide)) | refine aw_cond rfl (fun hb => absurd hb (by decide)) (fun _ => ?_) | (refine aw_reg (fun K hK => ?_); simp -implicitDefEqProofs [hkl, ha, ha', hal, b1, b2, w2]) | (refine aw_drw mixd (fun K hK => ?_); simp -implicitDefEqProofs [hkl, ha, ha', hal, b1, b2, w2]) | refine hK _ ?_ | refine hK _ _ (by rfl) ?_ | (refine ar_call (cp hc ?_); simp -implicitDefEqProofs [hkl, ha, ha', hal, b1, b2, w2]) | (refine ard_call (dp hc ?_); simp -implicitDefEqProofs [hkl, ha, ha', hal, b1, b2, w2]) | (refine ar_call (cp hb ?_); simp -implicitDefEqProofs [hkl, ha, ha', hal, b1, b2, w2]) | (refine ard_call (dp hb ?_); simp -implicitDefEqProofs [hkl, ha, ha', hal, b1, b2, w2]) | fail)
    refine ⟨(k + 1, LN, AK ++ [.mk bx bl]), ⟨by omega, by simp [hal], hz, _, hn⟩, (by dsimp only; omega), ?_⟩
    rw [hI]; exact cov_intro [0, 1, 2, 3, 4, 107] (by simp -implicitDefEqProofs) (by simp -implicitDefEqProofs) (by decide) rfl (by simp)
  · rw [if_neg he] at hz
    subst hz
    repeat' (first | refine aw_seq ?_ | refine aw_skip ?_ | refine aw_block ?_ | refine aw_exit ?_ | refine aw_cond rfl (fun _ => ?_) (fun hb => absurd hb (by decide)) | refine aw_cond rfl (fun hb => absurd hb (by decide)) (fun _ => ?_) | (refine aw_reg (fun K hK => ?_); simp -implicitDefEqProofs [hkl, ha, ha', he]) | (refine aw_drw mixd (fun K hK => ?_); simp -implicitDefEqProofs [hkl, ha, ha', he]) | refine hK _ ?_ | refine hK _ _ (by rfl) ?_ | (refine ar_call (cp hc ?_); simp -implicitDefEqProofs [hkl, ha, ha', he]) | (refine ard_call (dp hc ?_); simp -implicitDefEqProofs [hkl, ha, ha', he]) | fail)
    refine aw_ret (fin_ret ?_); simp -implicitDefEqProofs [FinP, resV, resT] <;> try rfl
end Go.Proofs.Ytjjnboenehomgaa.am
end
section
namespace Go.Proofs.Ytjjnboenehomgaa.am
open Go.ChangeShapes Go.WideShapes Go.ChangeAt Go.RowKit
open vt
set_option linter.unusedVariables false
set_option linter.unusedSimpArgs false
set_option maxRecDepth 100000 in
set_option maxHeartbeats 4000000 in
theorem rpart_row (m ret : VT) (L : List VT) (B : Nat) (x : Lab) (l : List VT) (ht : in64 (.mk x l)) (hc : Cn m L ret B (Tr.mk x l).size) (i : Nat) (y : VT) (hy : l[i]? = some y) (hn : (l.length : Int) = (prtN x.k).1) (hb : (prtN x.k).1 - (prtN x.k).2 ≤ i → y.lab.k = 29 ∧ BlR m ret y) : Row Try.prog 124 [vT m, vLs L, vT ret, vT (.mk x l), vI (i : Nat)] [] (vGr (prtT m ret L x i y)) [] := by
  have hp := rparts_row x.k
  have hil := (List.getElem?_eq_some_iff.1 hy).1
  have hy' := (List.getElem?_eq_some_iff.1 hy).2
  have hsz := Tr.size_at (x := x) hy
  have hin := ((Tr.all_mk _ x l).1 ht).2 _ (List.mem_of_getElem? hy)
  have hcl := hc.len
  have hcB := hc.le
  have hms := hc.hm.2
  have b3 : L.length * 72 ≤ 140737488355328 := by omega
  have b4 : L.length ≤ 140737488355328 := by omega
  have b1 : (L.length + 1) * 72 ≤ 140737488355328 := by omega
  have b2 : L.length + 1 ≤ 140737488355328 := by omega
  unfold prtT prtG
  rcases prtN_cases x.k with e | ⟨n, b, e, hbn, hn3⟩
  · rw [e] at hn; dsimp only at hn; omega
  rw [e] at hp hn hb ⊢
  dsimp only at hp hn hb ⊢
  have hln : l.length = n := by omega
  subst hln
  obtain ⟨s, hsb⟩ : ∃ s : Nat, l.length - b = s := ⟨_, rfl⟩
  have w1 : IntKind.i64.wrap ((l.length : Nat) - (b : Nat) : Int) = (s : Nat) := by rw [i64i _ (by omega) (by omega)]; omega
  rw [show ((l.length : Int) - (b : Int)) = (s : Nat) by omega] at hb ⊢
  by_cases hsi : s ≤ i
  · have hsi' : (s : Int) ≤ (i : Int) := by omega
    obtain ⟨h29, hbl⟩ := hb hsi'
    rw [if_pos hsi']
    obtain ⟨yx, yl⟩ := y
    rw [Tr.lab] at h29
    have hst : ∀ L, stmT m ret (.mk yx yl) L = blkT m ret yx yl L [] := fun L => by
      rw [stmT_eq, show shpS yx yl = true by unfold shpS; rw [if_pos h29], if_neg (by simp), if_pos h29]
    by_cases c25 : x.k = 25
    · rw [if_pos c25, hst]
      have hk := hbl (L ++ [tyT 1]) B ⟨hc.hm, fun y hy => by
        rcases List.mem_append.1 hy with hy | hy
        · exact hc.hL y hy
        · simp at hy; subst hy; exact fine_ty (Nat.le_trans (Tr.size_pos m) hc.hm.2) (by omega), by simp; omega, by omega, hc.ret⟩
      rw [Tr.lab, Tr.kids] at hk
      obtain ⟨⟨⟨bx, bl⟩, gp, ge⟩, hG⟩ : ∃ g, blkT m ret yx yl (L ++ [tyT 1]) [] = g := ⟨_, rfl⟩
      rw [hG] at hk ⊢
      clear hG hb hbl hst e
      unfold tyT at hk
      obtain ⟨mx, ml⟩ := m
      obtain ⟨rx, rl⟩ := ret
      refine row_of Try.func124 rfl rfl (Nat.le_of_ble_eq_true rfl) ?_
      repeat' (first | refine aw_seq ?_ | refine aw_skip ?_ | refine aw_block ?_ | refine aw_exit ?_ | refine aw_cond rfl (fun _ => ?_) (fun hb => absurd hb (by decide)) | refine aw_cond rfl (fun hb => absurd hb (by decide)) (fun _ => ?_) | (refine aw_reg (fun K hK => ?_); simp -implicitDefEqProofs [hil, hy, hy', w1, hsi, hsi', c25, b1, b2, b3, b4]) | (refine aw_drw mixd (fun K hK => ?_); simp -implicitDefEqProofs [hil, hy, hy', w1, hsi, hsi', c25, b1, b2, b3, b4]) | refine hK _ ?_ | refine hK _ _ (by rfl) ?_ | (refine ar_call (cp hp ?_); simp -implicitDefEqProofs [hil, hy, hy', w1, hsi, hsi', c25, b1, b2, b3, b4]) | (refine ard_call (dp hp ?_); simp -implicitDefEqProofs [hil, hy, hy', w1, hsi, hsi', c25, b1, b2, b3, b4]) | (refine ar_call (cp hk ?_); simp -implicitDefEqProofs [hil, hy, hy', w1, hsi, hsi', c25, b1, b2, b3, b4]) | (refine ard_call (dp hk ?_); simp -implicitDefEqProofs [hil, hy, hy', w1, hsi, hsi', c25, b1, b2, b3, b4]) | fail)
      refine aw_ret (fin_ret ?_); simp -implicitDefEqProofs [FinP, resV, resT] <;> try rfl
    · rw [if_neg c25, hst]
      have hk := hbl L B (hc.less (by omega))
      rw [Tr.lab, Tr.kids] at hk
      obtain ⟨⟨⟨bx, bl⟩, gp, ge⟩, hG⟩ : ∃ g, blkT m ret yx yl L [] = g := ⟨_, rfl⟩
      rw [hG] at hk ⊢
      clear hG hb hbl hst e
      obtain ⟨mx, ml⟩ := m
      obtain ⟨rx, rl⟩ := ret
      refine row_of Try.func124 rfl rfl (Nat.le_of_ble_eq_true rfl) ?_
      repeat' (first | refine aw_seq ?_ | refine aw_skip ?_ | refine aw_block ?_ | refine aw_exit ?_ | refine aw_cond rfl (fun _ => ?_) (fun hb => absurd hb (by decide)) | refine aw_cond rfl (fun hb => absurd hb (by decide)) (fun _ => ?_) | (refine aw_reg (fun K hK => ?_); simp -implicitDefEqProofs [hil, hy, hy', w1, hsi, hsi', c25]) | (refine aw_drw mixd (fun K hK => ?_); simp -implicitDefEqProofs [hil, hy, hy', w1, hsi, hsi', c25]) | refine hK _ ?_ | refine hK _ _ (by rfl) ?_ | (refine ar_call (cp hp ?_); simp -implicitDefEqProofs [hil, hy, hy', w1, hsi, hsi', c25]) | (refine ard_call (dp hp ?_); simp -implicitDefEqProofs [hil, hy, hy', w1, hsi, hsi', c25]) | (refine ar_call (cp hk ?_); simp -implicitDefEqProofs [hil, hy, hy', w1, hsi, hsi', c25]) | (refine ard_call (dp hk ?_); simp -implicitDefEqProofs [hil, hy, hy', w1, hsi, hsi', c25]) | fail)
      refine aw_ret (fin_ret ?_); simp -implicitDefEqProofs [FinP, resV, resT] <;> try rfl
  have hsi' : ¬ (s : Int) ≤ (i : Int) := by omega
  rw [if_neg hsi']
  clear hb
  by_cases c21 : x.k = 21
  · rw [if_pos c21]
    have hce := rcells_row m y hc.hm.1 (by omega) hin (by omega)
    have hnm := rnml_row y (by omega)
    obtain ⟨yx, yl⟩ := y
    have hba := rbad16_row yx yl 11
    rw [Tr.lab]
    obtain ⟨c, hcc⟩ : ∃ c, cels m (.mk yx yl) = c := ⟨_, rfl⟩
    obtain ⟨⟨zx, zl⟩, hzz⟩ : ∃ z, nmlT (.mk yx yl) = z := ⟨_, rfl⟩
    rw [hcc] at hce ⊢
    rw [hzz] at hnm ⊢
    unfold badR at hba ⊢
    clear hcc hzz e
    obtain ⟨mx, ml⟩ := m
    obtain ⟨rx, rl⟩ := ret
    by_cases c0 : c = 0
    · rw [if_pos c0]
      refine row_of Try.func124 rfl rfl (Nat.le_of_ble_eq_true rfl) ?_
      repeat' (first | refine aw_seq ?_ | refine aw_skip ?_ | refine aw_block ?_ | refine aw_exit ?_ | refine aw_cond rfl (fun _ => ?_) (fun hb => absurd hb (by decide)) | refine aw_cond rfl (fun hb => absurd hb (by decide)) (fun _ => ?_) | (refine aw_reg (fun K hK => ?_); simp -implicitDefEqProofs [hil, hy, hy', w1, hsi, hsi', c21, c0]) | (refine aw_drw mixd (fun K hK => ?_); simp -implicitDefEqProofs [hil, hy, hy', w1, hsi, hsi', c21, c0]) | refine hK _ ?_ | refine hK _ _ (by rfl) ?_ | (refine ar_call (cp hp ?_); simp -implicitDefEqProofs [hil, hy, hy', w1, hsi, hsi', c21, c0]) | (refine ard_call (dp hp ?_); simp -implicitDefEqProofs [hil, hy, hy', w1, hsi, hsi', c21, c0]) | (refine ar_call (cp hce ?_); simp -implicitDefEqProofs [hil, hy, hy', w1, hsi, hsi', c21, c0]) | (refine ard_call (dp hce ?_); simp -implicitDefEqProofs [hil, hy, hy', w1, hsi, hsi', c21, c0]) | (refine ar_call (cp hnm ?_); simp -implicitDefEqProofs [hil, hy, hy', w1, hsi, hsi', c21, c0]) | (refine ard_call (dp hnm ?_); simp -implicitDefEqProofs [hil, hy, hy', w1, hsi, hsi', c21, c0]) | (refine ar_call (cp hba ?_); simp -implicitDefEqProofs [hil, hy, hy', w1, hsi, hsi', c21, c0]) | (refine ard_call (dp hba ?_); simp -implicitDefEqProofs [hil, hy, hy', w1, hsi, hsi', c21, c0]) | fail)
      refine aw_ret (fin_ret ?_); simp -implicitDefEqProofs [FinP, resV, resT] <;> try rfl
    · rw [if_neg c0]
      refine row_of Try.func124 rfl rfl (Nat.le_of_ble_eq_true rfl) ?_
      repeat' (first | refine aw_seq ?_ | refine aw_skip ?_ | refine aw_block ?_ | refine aw_exit ?_ | refine aw_cond rfl (fun _ => ?_) (fun hb => absurd hb (by decide)) | refine aw_cond rfl (fun hb => absurd hb (by decide)) (fun _ => ?_) | (refine aw_reg (fun K hK => ?_); simp -implicitDefEqProofs [hil, hy, hy', w1, hsi, hsi', c21, c0]) | (refine aw_drw mixd (fun K hK => ?_); simp -implicitDefEqProofs [hil, hy, hy', w1, hsi, hsi', c21, c0]) | refine hK _ ?_ | refine hK _ _ (by rfl) ?_ | (refine ar_call (cp hp ?_); simp -implicitDefEqProofs [hil, hy, hy', w1, hsi, hsi', c21, c0]) | (refine ard_call (dp hp ?_); simp -implicitDefEqProofs [hil, hy, hy', w1, hsi, hsi', c21, c0]) | (refine ar_call (cp hce ?_); simp -implicitDefEqProofs [hil, hy, hy', w1, hsi, hsi', c21, c0]) | (refine ard_call (dp hce ?_); simp -implicitDefEqProofs [hil, hy, hy', w1, hsi, hsi', c21, c0]) | (refine ar_call (cp hnm ?_); simp -implicitDefEqProofs [hil, hy, hy', w1, hsi, hsi', c21, c0]) | (refine ard_call (dp hnm ?_); simp -implicitDefEqProofs [hil, hy, hy', w1, hsi, hsi', c21, c0]) | (refine ar_call (cp hba ?_); simp -implicitDefEqProofs [hil, hy, hy', w1, hsi, hsi', c21, c0]) | (refine ard_call (dp hba ?_); simp -implicitDefEqProofs [hil, hy, hy', w1, hsi, hsi', c21, c0]) | fail)
      refine aw_ret (fin_ret ?_); simp -implicitDefEqProofs [FinP, resV, resT] <;> try rfl
  rw [if_neg c21]
  have hon := fun a b => ronly_row m L B hc.hm hc.hL (by omega) (by omega) y hin (by omega) a b
  by_cases c23 : x.k = 23 ∨ x.k = 24
  · rw [if_pos c23]
    have hk := hon 2 2
    obtain ⟨⟨⟨bx, bl⟩, gp, ge⟩, hG⟩ : ∃ g, onlT m L y 2 2 = g := ⟨_, rfl⟩
    rw [hG] at hk ⊢
    clear hG e hon
    obtain ⟨mx, ml⟩ := m
    obtain ⟨rx, rl⟩ := ret
    obtain ⟨yx, yl⟩ := y
    rcases c23 with c | c
    · refine row_of Try.func124 rfl rfl (Nat.le_of_ble_eq_true rfl) ?_
      repeat' (first | refine aw_seq ?_ | refine aw_skip ?_ | refine aw_block ?_ | refine aw_exit ?_ | refine aw_cond rfl (fun _ => ?_) (fun hb => absurd hb (by decide)) | refine aw_cond rfl (fun hb => absurd hb (by decide)) (fun _ => ?_) | (refine aw_reg (fun K hK => ?_); simp -implicitDefEqProofs [hil, hy, hy', w1, hsi, hsi', c]) | (refine aw_drw mixd (fun K hK => ?_); simp -implicitDefEqProofs [hil, hy, hy', w1, hsi, hsi', c]) | refine hK _ ?_ | refine hK _ _ (by rfl) ?_ | (refine ar_call (cp hp ?_); simp -implicitDefEqProofs [hil, hy, hy', w1, hsi, hsi', c]) | (refine ard_call (dp hp ?_); simp -implicitDefEqProofs [hil, hy, hy', w1, hsi, hsi', c]) | (refine ar_call (cp hk ?_); simp -implicitDefEqProofs [hil, hy, hy', w1, hsi, hsi', c]) | (refine ard_call (dp hk ?_); simp -implicitDefEqProofs [hil, hy, hy', w1, hsi, hsi', c]) | fail)
      refine aw_ret (fin_ret ?_); simp -implicitDefEqProofs [FinP, resV, resT] <;> try rfl
    · refine row_of Try.func124 rfl rfl (Nat.le_of_ble_eq_true rfl) ?_
      repeat' (first | refine aw_seq ?_ | refine aw_skip ?_ | refine aw_block ?_ | refine aw_exit ?_ | refine aw_cond rfl (fun _ => ?_) (fun hb => absurd hb (by decide)) | refine aw_cond rfl (fun hb => absurd hb (by decide)) (fun _ => ?_) | (refine aw_reg (fun K hK => ?_); simp -implicitDefEqProofs [hil, hy, hy', w1, hsi, hsi', c]) | (refine aw_drw mixd (fun K hK => ?_); simp -implicitDefEqProofs [hil, hy, hy', w1, hsi, hsi', c]) | refine hK _ ?_ | refine hK _ _ (by rfl) ?_ | (refine ar_call (cp hp ?_); simp -implicitDefEqProofs [hil, hy, hy', w1, hsi, hsi', c]) | (refine ard_call (dp hp ?_); simp -implicitDefEqProofs [hil, hy, hy', w1, hsi, hsi', c]) | (refine ar_call (cp hk ?_); simp -implicitDefEqProofs [hil, hy, hy', w1, hsi, hsi', c]) | (refine ard_call (dp hk ?_); simp -implicitDefEqProofs [hil, hy, hy', w1, hsi, hsi', c]) | fail)
      refine aw_ret (fin_ret ?_); simp -implicitDefEqProofs [FinP, resV, resT] <;> try rfl
  rw [if_neg c23]
  have n23 : ¬ x.k = 23 := fun h => c23 (.inl h)
  have n24 : ¬ x.k = 24 := fun h => c23 (.inr h)
  by_cases c25 : x.k = 25
  · rw [if_pos c25]
    have hk := hon 1 1
    obtain ⟨⟨⟨bx, bl⟩, gp, ge⟩, hG⟩ : ∃ g, onlT m L y 1 1 = g := ⟨_, rfl⟩
    rw [hG] at hk ⊢
    clear hG e hon
    obtain ⟨mx, ml⟩ := m
    obtain ⟨rx, rl⟩ := ret
    obtain ⟨yx, yl⟩ := y
    refine row_of Try.func124 rfl rfl (Nat.le_of_ble_eq_true rfl) ?_
    repeat' (first | refine aw_seq ?_ | refine aw_skip ?_ | refine aw_block ?_ | refine aw_exit ?_ | refine aw_cond rfl (fun _ => ?_) (fun hb => absurd hb (by decide)) | refine aw_cond rfl (fun hb => absurd hb (by decide)) (fun _ => ?_) | (refine aw_reg (fun K hK => ?_); simp -implicitDefEqProofs [hil, hy, hy', w1, hsi, hsi', c25]) | (refine aw_drw mixd (fun K hK => ?_); simp -implicitDefEqProofs [hil, hy, hy', w1, hsi, hsi', c25]) | refine hK _ ?_ | refine hK _ _ (by rfl) ?_ | (refine ar_call (cp hp ?_); simp -implicitDefEqProofs [hil, hy, hy', w1, hsi, hsi', c25]) | (refine ard_call (dp hp ?_); simp -implicitDefEqProofs [hil, hy, hy', w1, hsi, hsi', c25]) | (refine ar_call (cp hk ?_); simp -implicitDefEqProofs [hil, hy, hy', w1, hsi, hsi', c25]) | (refine ard_call (dp hk ?_); simp -implicitDefEqProofs [hil, hy, hy', w1, hsi, hsi', c25]) | fail)
    refine aw_ret (fin_ret ?_); simp -implicitDefEqProofs [FinP, resV, resT] <;> try rfl
  rw [if_neg c25]
  by_cases c26 : x.k = 26
  · rw [if_pos c26]
    have hk := hon 1 2
    obtain ⟨⟨⟨bx, bl⟩, gp, ge⟩, hG⟩ : ∃ g, onlT m L y 1 2 = g := ⟨_, rfl⟩
    rw [hG] at hk ⊢
    clear hG e hon
    obtain ⟨mx, ml⟩ := m
    obtain ⟨rx, rl⟩ := ret
    obtain ⟨yx, yl⟩ := y
    refine row_of Try.func124 rfl rfl (Nat.le_of_ble_eq_true rfl) ?_
    repeat' (first | refine aw_seq ?_ | refine aw_skip ?_ | refine aw_block ?_ | refine aw_exit ?_ | refine aw_cond rfl (fun _ => ?_) (fun hb => absurd hb (by decide)) | refine aw_cond rfl (fun hb => absurd hb (by decide)) (fun _ => ?_) | (refine aw_reg (fun K hK => ?_); simp -implicitDefEqProofs [hil, hy, hy', w1, hsi, hsi', c26]) | (refine aw_drw mixd (fun K hK => ?_); simp -implicitDefEqProofs [hil, hy, hy', w1, hsi, hsi', c26]) | refine hK _ ?_ | refine hK _ _ (by rfl) ?_ | (refine ar_call (cp hp ?_); simp -implicitDefEqProofs [hil, hy, hy', w1, hsi, hsi', c26]) | (refine ard_call (dp hp ?_); simp -implicitDefEqProofs [hil, hy, hy', w1, hsi, hsi', c26]) | (refine ar_call (cp hk ?_); simp -implicitDefEqProofs [hil, hy, hy', w1, hsi, hsi', c26]) | (refine ard_call (dp hk ?_); simp -implicitDefEqProofs [hil, hy, hy', w1, hsi, hsi', c26]) | fail)
    refine aw_ret (fin_ret ?_); simp -implicitDefEqProofs [FinP, resV, resT] <;> try rfl
  rw [if_neg c26]
  clear hon
  by_cases c28 : x.k = 28 ∧ ¬ y.lab.k = 16
  · rw [if_pos c28]
    obtain ⟨c28, c16⟩ := c28
    obtain ⟨yx, yl⟩ := y
    have hba := rbad16_row yx yl 12
    rw [Tr.lab] at c16 ⊢
    unfold badR at hba ⊢
    obtain ⟨mx, ml⟩ := m
    obtain ⟨rx, rl⟩ := ret
    refine row_of Try.func124 rfl rfl (Nat.le_of_ble_eq_true rfl) ?_
    repeat' (first | refine aw_seq ?_ | refine aw_skip ?_ | refine aw_block ?_ | refine aw_exit ?_ | refine aw_cond rfl (fun _ => ?_) (fun hb => absurd hb (by decide)) | refine aw_cond rfl (fun hb => absurd hb (by decide)) (fun _ => ?_) | (refine aw_reg (fun K hK => ?_); simp -implicitDefEqProofs [hil, hy, hy', w1, hsi, hsi', c28, c16]) | (refine aw_drw mixd (fun K hK => ?_); simp -implicitDefEqProofs [hil, hy, hy', w1, hsi, hsi', c28, c16]) | refine hK _ ?_ | refine hK _ _ (by rfl) ?_ | (refine ar_call (cp hp ?_); simp -implicitDefEqProofs [hil, hy, hy', w1, hsi, hsi', c28, c16]) | (refine ard_call (dp hp ?_); simp -implicitDefEqProofs [hil, hy, hy', w1, hsi, hsi', c28, c16]) | (refine ar_call (cp hba ?_); simp -implicitDefEqProofs [hil, hy, hy', w1, hsi, hsi', c28, c16]) | (refine ard_call (dp hba ?_); simp -implicitDefEqProofs [hil, hy, hy', w1, hsi, hsi', c28, c16]) | fail)
    refine aw_ret (fin_ret ?_); simp -implicitDefEqProofs [FinP, resV, resT] <;> try rfl
  rw [if_neg c28]
  have hof := rof_row m L B hc.hm hc.hL (by omega) (by omega) y hin (by omega)
  have hok := ofT_ok hc.hm (by omega) hc.hL y hin (by omega)
  have hsa := rsame_row (ofT m L y).ty (by have := hok.ty.2; omega) (barT ret) (by rw [barT_size]; have := hc.ret.2; omega)
  have hbr := rbare_row ret (by have := hc.ret.2; omega)
  have hfr := rfrom_row (ofT m L y)
  clear hok
  obtain ⟨⟨⟨ax, al⟩, ⟨bx, bl⟩, gp, ge⟩, hG⟩ : ∃ g, ofT m L y = g := ⟨_, rfl⟩
  rw [hG] at hof hsa hfr ⊢
  dsimp only at hsa ⊢
  obtain ⟨⟨zx, zl⟩, hzz⟩ : ∃ z, barT ret = z := ⟨_, rfl⟩
  rw [hzz] at hsa hbr ⊢
  obtain ⟨q, hq⟩ : ∃ q, same (.mk ax al) (.mk zx zl) = q := ⟨_, rfl⟩
  rw [hq] at hsa ⊢
  unfold fromG at hfr ⊢
  clear hG hzz hq e
  obtain ⟨yx, yl⟩ := y
  have hba := rbad16_row yx yl 10
  unfold badR at hba ⊢
  rw [Tr.lab] at c28 ⊢
  have c28' : ¬ x.k = 28 ∨ (x.k = 28 ∧ yx.k = 16) := by
    by_cases h : x.k = 28
    · exact .inr ⟨h, Classical.byContradiction fun g => c28 ⟨h, g⟩⟩
    · exact .inl h
  clear c28
  obtain ⟨mx, ml⟩ := m
  obtain ⟨rx, rl⟩ := ret
  by_cases c27 : x.k = 27; rotate_left
  · rw [if_neg (fun h => c27 h.1)]
    rcases c28' with c28 | ⟨c28, c16⟩
    · refine row_of Try.func124 rfl rfl (Nat.le_of_ble_eq_true rfl) ?_
      repeat' (first | refine aw_seq ?_ | refine aw_skip ?_ | refine aw_block ?_ | refine aw_exit ?_ | refine aw_cond rfl (fun _ => ?_) (fun hb => absurd hb (by decide)) | refine aw_cond rfl (fun hb => absurd hb (by decide)) (fun _ => ?_) | (refine aw_reg (fun K hK => ?_); simp -implicitDefEqProofs [hil, hy, hy', w1, hsi, hsi', c21, n23, n24, c25, c26, c27, c28]) | (refine aw_drw mixd (fun K hK => ?_); simp -implicitDefEqProofs [hil, hy, hy', w1, hsi, hsi', c21, n23, n24, c25, c26, c27, c28]) | refine hK _ ?_ | refine hK _ _ (by rfl) ?_ | (refine ar_call (cp hp ?_); simp -implicitDefEqProofs [hil, hy, hy', w1, hsi, hsi', c21, n23, n24, c25, c26, c27, c28]) | (refine ard_call (dp hp ?_); simp -implicitDefEqProofs [hil, hy, hy', w1, hsi, hsi', c21, n23, n24, c25, c26, c27, c28]) | (refine ar_call (cp hof ?_); simp -implicitDefEqProofs [hil, hy, hy', w1, hsi, hsi', c21, n23, n24, c25, c26, c27, c28]) | (refine ard_call (dp hof ?_); simp -implicitDefEqProofs [hil, hy, hy', w1, hsi, hsi', c21, n23, n24, c25, c26, c27, c28]) | (refine ar_call (cp hfr ?_); simp -implicitDefEqProofs [hil, hy, hy', w1, hsi, hsi', c21, n23, n24, c25, c26, c27, c28]) | (refine ard_call (dp hfr ?_); simp -implicitDefEqProofs [hil, hy, hy', w1, hsi, hsi', c21, n23, n24, c25, c26, c27, c28]) | fail)
      refine aw_ret (fin_ret ?_); simp -implicitDefEqProofs [FinP, resV, resT] <;> try rfl
    · refine row_of Try.func124 rfl rfl (Nat.le_of_ble_eq_true rfl) ?_
      repeat' (first | refine aw_seq ?_ | refine aw_skip ?_ | refine aw_block ?_ | refine aw_exit ?_ | refine aw_cond rfl (fun _ => ?_) (fun hb => absurd hb (by decide)) | refine aw_cond rfl (fun hb => absurd hb (by decide)) (fun _ => ?_) | (refine aw_reg (fun K hK => ?_); simp -implicitDefEqProofs [hil, hy, hy', w1, hsi, hsi', c27, c28, c16]) | (refine aw_drw mixd (fun K hK => ?_); simp -implicitDefEqProofs [hil, hy, hy', w1, hsi, hsi', c27, c28, c16]) | refine hK _ ?_ | refine hK _ _ (by rfl) ?_ | (refine ar_call (cp hp ?_); simp -implicitDefEqProofs [hil, hy, hy', w1, hsi, hsi', c27, c28, c16]) | (refine ard_call (dp hp ?_); simp -implicitDefEqProofs [hil, hy, hy', w1, hsi, hsi', c27, c28, c16]) | (refine ar_call (cp hof ?_); simp -implicitDefEqProofs [hil, hy, hy', w1, hsi, hsi', c27, c28, c16]) | (refine ard_call (dp hof ?_); simp -implicitDefEqProofs [hil, hy, hy', w1, hsi, hsi', c27, c28, c16]) | (refine ar_call (cp hfr ?_); simp -implicitDefEqProofs [hil, hy, hy', w1, hsi, hsi', c27, c28, c16]) | (refine ard_call (dp hfr ?_); simp -implicitDefEqProofs [hil, hy, hy', w1, hsi, hsi', c27, c28, c16]) | fail)
      refine aw_ret (fin_ret ?_); simp -implicitDefEqProofs [FinP, resV, resT] <;> try rfl
  by_cases he : ge = 0; rotate_left
  · rw [if_neg (fun h => he h.2.1)]
    refine row_of Try.func124 rfl rfl (Nat.le_of_ble_eq_true rfl) ?_
    repeat' (first | refine aw_seq ?_ | refine aw_skip ?_ | refine aw_block ?_ | refine aw_exit ?_ | refine aw_cond rfl (fun _ => ?_) (fun hb => absurd hb (by decide)) | refine aw_cond rfl (fun hb => absurd hb (by decide)) (fun _ => ?_) | (refine aw_reg (fun K hK => ?_); simp -implicitDefEqProofs [hil, hy, hy', w1, hsi, hsi', c27, he]) | (refine aw_drw mixd (fun K hK => ?_); simp -implicitDefEqProofs [hil, hy, hy', w1, hsi, hsi', c27, he]) | refine hK _ ?_ | refine hK _ _ (by rfl) ?_ | (refine ar_call (cp hp ?_); simp -implicitDefEqProofs [hil, hy, hy', w1, hsi, hsi', c27, he]) | (refine ard_call (dp hp ?_); simp -implicitDefEqProofs [hil, hy, hy', w1, hsi, hsi', c27, he]) | (refine ar_call (cp hof ?_); simp -implicitDefEqProofs [hil, hy, hy', w1, hsi, hsi', c27, he]) | (refine ard_call (dp hof ?_); simp -implicitDefEqProofs [hil, hy, hy', w1, hsi, hsi', c27, he]) | (refine ar_call (cp hfr ?_); simp -implicitDefEqProofs [hil, hy, hy', w1, hsi, hsi', c27, he]) | (refine ard_call (dp hfr ?_); simp -implicitDefEqProofs [hil, hy, hy', w1, hsi, hsi', c27, he]) | fail)
    refine aw_ret (fin_ret ?_); simp -implicitDefEqProofs [FinP, resV, resT] <;> try rfl
  cases q with
  | true =>
    rw [if_neg (by simp)]
    refine row_of Try.func124 rfl rfl (Nat.le_of_ble_eq_true rfl) ?_
    repeat' (first | refine aw_seq ?_ | refine aw_skip ?_ | refine aw_block ?_ | refine aw_exit ?_ | refine aw_cond rfl (fun _ => ?_) (fun hb => absurd hb (by decide)) | refine aw_cond rfl (fun hb => absurd hb (by decide)) (fun _ => ?_) | (refine aw_reg (fun K hK => ?_); simp -implicitDefEqProofs [hil, hy, hy', w1, hsi, hsi', c27, he]) | (refine aw_drw mixd (fun K hK => ?_); simp -implicitDefEqProofs [hil, hy, hy', w1, hsi, hsi', c27, he]) | refine hK _ ?_ | refine hK _ _ (by rfl) ?_ | (refine ar_call (cp hp ?_); simp -implicitDefEqProofs [hil, hy, hy', w1, hsi, hsi', c27, he]) | (refine ard_call (dp hp ?_); simp -implicitDefEqProofs [hil, hy, hy', w1, hsi, hsi', c27, he]) | (refine ar_call (cp hof ?_); simp -implicitDefEqProofs [hil, hy, hy', w1, hsi, hsi', c27, he]) | (refine ard_call (dp hof ?_); simp -implicitDefEqProofs [hil, hy, hy', w1, hsi, hsi', c27, he]) | (refine ar_call (cp hfr ?_); simp -implicitDefEqProofs [hil, hy, hy', w1, hsi, hsi', c27, he]) | (refine ard_call (dp hfr ?_); simp -implicitDefEqProofs [hil, hy, hy', w1, hsi, hsi', c27, he]) | (refine ar_call (cp hbr ?_); simp -implicitDefEqProofs [hil, hy, hy', w1, hsi, hsi', c27, he]) | (refine ard_call (dp hbr ?_); simp -implicitDefEqProofs [hil, hy, hy', w1, hsi, hsi', c27, he]) | (refine ar_call (cp hsa ?_); simp -implicitDefEqProofs [hil, hy, hy', w1, hsi, hsi', c27, he]) | (refine ard_call (dp hsa ?_); simp -implicitDefEqProofs [hil, hy, hy', w1, hsi, hsi', c27, he]) | fail)
    refine aw_ret (fin_ret ?_); simp -implicitDefEqProofs [FinP, resV, resT, he] <;> try rfl
  | false =>
    rw [if_pos ⟨c27, he, rfl⟩]
    refine row_of Try.func124 rfl rfl (Nat.le_of_ble_eq_true rfl) ?_
    repeat' (first | refine aw_seq ?_ | refine aw_skip ?_ | refine aw_block ?_ | refine aw_exit ?_ | refine aw_cond rfl (fun _ => ?_) (fun hb => absurd hb (by decide)) | refine aw_cond rfl (fun hb => absurd hb (by decide)) (fun _ => ?_) | (refine aw_reg (fun K hK => ?_); simp -implicitDefEqProofs [hil, hy, hy', w1, hsi, hsi', c27, he]) | (refine aw_drw mixd (fun K hK => ?_); simp -implicitDefEqProofs [hil, hy, hy', w1, hsi, hsi', c27, he]) | refine hK _ ?_ | refine hK _ _ (by rfl) ?_ | (refine ar_call (cp hp ?_); simp -implicitDefEqProofs [hil, hy, hy', w1, hsi, hsi', c27, he]) | (refine ard_call (dp hp ?_); simp -implicitDefEqProofs [hil, hy, hy', w1, hsi, hsi', c27, he]) | (refine ar_call (cp hof ?_); simp -implicitDefEqProofs [hil, hy, hy', w1, hsi, hsi', c27, he]) | (refine ard_call (dp hof ?_); simp -implicitDefEqProofs [hil, hy, hy', w1, hsi, hsi', c27, he]) | (refine ar_call (cp hfr ?_); simp -implicitDefEqProofs [hil, hy, hy', w1, hsi, hsi', c27, he]) | (refine ard_call (dp hfr ?_); simp -implicitDefEqProofs [hil, hy, hy', w1, hsi, hsi', c27, he]) | (refine ar_call (cp hbr ?_); simp -implicitDefEqProofs [hil, hy, hy', w1, hsi, hsi', c27, he]) | (refine ard_call (dp hbr ?_); simp -implicitDefEqProofs [hil, hy, hy', w1, hsi, hsi', c27, he]) | (refine ar_call (cp hsa ?_); simp -implicitDefEqProofs [hil, hy, hy', w1, hsi, hsi', c27, he]) | (refine ard_call (dp hsa ?_); simp -implicitDefEqProofs [hil, hy, hy', w1, hsi, hsi', c27, he]) | (refine ar_call (cp hba ?_); simp -implicitDefEqProofs [hil, hy, hy', w1, hsi, hsi', c27, he]) | (refine ard_call (dp hba ?_); simp -implicitDefEqProofs [hil, hy, hy', w1, hsi, hsi', c27, he]) | fail)
    refine aw_ret (fin_ret ?_); simp -implicitDefEqProofs [FinP, resV, resT] <;> try rfl
theorem prtsT_get (m ret : VT) (L : List VT) (x : Lab) : ∀ (l : List VT) (i k : Nat), (prtsT m ret L x i l)[k]? = (l[k]?).map (prtT m ret L x (i + k))
  | [], i, k => by simp [prtsT]
  | y :: r, i, 0 => by simp [prtsT]
  | y :: r, i, k + 1 => by
    rw [prtsT, List.getElem?_cons_succ, prtsT_get m ret L x r (i + 1) k, List.getElem?_cons_succ, show i + 1 + k = i + (k + 1) by omega]
theorem prtsT_len (m ret : VT) (L : List VT) (x : Lab) : ∀ (l : List VT) (i : Nat), (prtsT m ret L x i l).length = l.length
  | [], i => rfl
  | y :: r, i => by rw [prtsT, List.length_cons, prtsT_len m ret L x r, List.length_cons]
end Go.Proofs.Ytjjnboenehomgaa.am
end
