import Derived.Test.YthkfdheoakbfnaaPkS18
import Derived.Test.YthkfdheoakbfnaaPkS16
import Derived.Test.YthkfdheoakbfnaaChecked
import Derived.Test.YthkfdheoakbfnaaPkS7
import Derived.Test.YthkfdheoakbfnaaPkS4
import Derived.ChangeMaps5
section
namespace Go.Proofs.Ythkfdheoakbfnaa.am
open Go.ChangeShapes Go.WideShapes Go.ChangeAt Go.RowKit
open vt
set_option linter.unusedVariables false
set_option linter.unusedSimpArgs false
set_option maxRecDepth 100000 in
set_option maxHeartbeats 4000000 in
theorem sarnd_err (ml : List VT) (l : List VT) (h : ∀ y ∈ l, TOk ml y) (A : Nat) (Nm : List ByteArray) (E : List ByteArray) (hsz : ∀ y ∈ l, Nm.length + y.size ≤ 100000) (hlen : l.length ≤ 100000) (hA : A ≤ 2) (hL : Nm.length ≤ 100000) (a e : Int) (he : e ≠ 0) : ∃ acc E', OkE Nm E' ∧ acc.length ≤ l.length ∧ Row Try.prog 118 [vPt, vLs l, vI (A : Nat), vSs Nm] [bxS 1 2 ml 0 a e, arS E, mpS ml] (vLs acc) [some (bxS 3 2 ml Nm.length a e), none, some (mpS ml), some (arS E')] := by
  obtain ⟨acc1, E1, a1, a2, a3, r1⟩ := seach_row ml (l.take A) (fun y hy => h y (List.mem_of_mem_take hy)) [] E (okE0 E) (fun y hy => by have := hsz y (List.mem_of_mem_take hy); simp; omega) (by rw [List.length_take]; omega) (by simp) a e (fun h => absurd h he)
  rw [if_neg he, if_neg he] at r1
  have hE2 : OkE Nm Nm := ⟨List.take_length, Nat.le_refl _⟩
  obtain ⟨acc2, E3, b1, b2, b3, r2⟩ := seach_row ml (l.drop A) (fun y hy => h y (List.mem_of_mem_drop hy)) Nm Nm hE2 (fun y hy => hsz y (List.mem_of_mem_drop hy)) (by rw [List.length_drop]; omega) hL a e (fun h => absurd h he)
  rw [if_neg he, if_neg he] at r2
  rw [List.length_take] at a2
  rw [List.length_drop] at b2
  rw [List.length_nil] at r1
  have hacc : acc1.length + acc2.length ≤ l.length := by omega
  refine ⟨acc1 ++ acc2, E3, b3, by rw [List.length_append]; exact hacc, ?_⟩
  have hmin : (if l.length < A then (l.length : Int) else (A : Nat)) = ((min A l.length : Nat) : Int) := by
    by_cases c : l.length < A
    · rw [if_pos c]; omega
    · rw [if_neg c]; omega
  obtain ⟨B, hB⟩ : ∃ B, min A l.length = B := ⟨_, rfl⟩
  rw [hB] at hmin
  have hBl : B ≤ l.length := by omega
  have hBl' : (B : Int) ≤ (l.length : Nat) := by omega
  have hB0 : (0 : Int) ≤ (B : Nat) := by omega
  have ht : l.take A = l.take B := by rw [← hB]; simp [List.take_eq_take_iff]
  have hd : l.drop A = l.drop B := by
    rw [← hB]
    by_cases c : A ≤ l.length
    · rw [Nat.min_eq_left c]
    · rw [Nat.min_eq_right (by omega), List.drop_length, List.drop_eq_nil_of_le (by omega)]
  rw [ht] at r1
  rw [hd] at r2
  have c1 : Nm.length * 16 ≤ 140737488355328 := by omega
  have c2 : Nm.length ≤ 140737488355328 := by omega
  have c3 : (acc1.length + acc2.length) * 72 ≤ 140737488355328 := by omega
  have c4 : acc1.length + acc2.length ≤ 140737488355328 := by omega
  refine row_of Try.func118 rfl rfl (Nat.le_of_ble_eq_true rfl) ?_
  refine aw_seq ?_; (first | refine aw_reg (fun K hK => ?_) | refine aw_drw mixd (fun K hK => ?_) | fail); simp -implicitDefEqProofs [hmin, hBl, hBl', hB0]; repeat' (first | refine hK _ ?_ | refine hK _ _ (by rfl) ?_ | ((first | fail); simp -implicitDefEqProofs [hmin, hBl, hBl', hB0]) | fail)
  refine aw_seq ?_; (first | refine aw_reg (fun K hK => ?_) | refine aw_drw mixd (fun K hK => ?_) | fail); simp -implicitDefEqProofs [hmin, hBl, hBl', hB0]; repeat' (first | refine hK _ ?_ | refine hK _ _ (by rfl) ?_ | ((first | fail); simp -implicitDefEqProofs [hmin, hBl, hBl', hB0]) | fail)
  refine aw_seq ?_; (first | refine aw_reg (fun K hK => ?_) | refine aw_drw mixd (fun K hK => ?_) | fail); simp -implicitDefEqProofs [hmin, hBl, hBl', hB0]; repeat' (first | refine hK _ ?_ | refine hK _ _ (by rfl) ?_ | ((first | refine ar_call (cgS r1 0 rfl ?_) | refine ard_call (dgS r1 0 rfl ?_) | fail); simp -implicitDefEqProofs [hmin, hBl, hBl', hB0]) | fail)
  refine aw_seq ?_; (first | refine aw_reg (fun K hK => ?_) | refine aw_drw mixd (fun K hK => ?_) | fail); simp -implicitDefEqProofs [hmin, c1, c2]; repeat' (first | refine hK _ ?_ | refine hK _ _ (by rfl) ?_ | ((first | fail); simp -implicitDefEqProofs [hmin, c1, c2]) | fail)
  refine aw_mvw 28 0 2 _ 9 1 Nm.length (wsS Nm) rfl rfl (.inl rfl) (by dsimp only; omega) (by dsimp only; omega) ?_
  simp [St.mvw]
  repeat' (first | refine aw_seq ?_ | refine aw_skip ?_ | refine aw_block ?_ | refine aw_exit ?_ | refine aw_ct rfl ?_ | refine aw_cf rfl ?_ | ((first | refine aw_reg (fun K hK => ?_) | refine aw_drw mixd (fun K hK => ?_) | refine ar_call (cgS r2 0 rfl ?_) | refine ard_call (dgS r2 0 rfl ?_) | fail); simp -implicitDefEqProofs [hBl, hBl', hB0, c3, c4]) | refine hK _ ?_ | refine hK _ _ (by rfl) ?_ | fail)
  refine aw_ret (fin_gS [] rfl ?_); simp -implicitDefEqProofs [FinG, resV, resT] <;> try rfl
noncomputable def strS (q : VT) : VT := .mk { q.lab with s := ⟨#[]⟩ } q.kids
theorem prt_strip (ml : List VT) : ∀ (l : List VT) (seen : List ByteArray), (∀ q ∈ l, q.lab.k = 34) → (prtS ml false seen l).2 = (prtS ml true seen l).2 ∧ ((prtS ml true seen l).2.2 = 0 → (prtS ml false seen l).1 = (prtS ml true seen l).1.map strS)
  | [], seen, _ => ⟨rfl, fun _ => rfl⟩
  | y :: l, seen, hk => by
    have ih := prt_strip ml l (seen ++ [y.lab.s]) (fun q hq => hk q (.tail _ hq))
    have hk0 := hk y (.head _)
    unfold prtS
    by_cases c : hasS seen y.lab.s = true
    · rw [if_pos c, if_pos c]; exact ⟨rfl, fun h => absurd (show (9 : Int) = 0 from h) (by decide)⟩
    rw [if_neg c, if_neg c]
    by_cases d : (anyT ml y []).er = 0
    · have hd : ¬ (anyT ml y []).er ≠ 0 := by simpa using d
      simp only [if_neg hd, ih.1]
      by_cases e : (prtS ml true (seen ++ [y.lab.s]) l).2.2 = 0
      · have he : ¬ (prtS ml true (seen ++ [y.lab.s]) l).2.2 ≠ 0 := by simpa using e
        simp only [if_neg he]
        refine ⟨by trivial, fun _ => ?_⟩
        rw [List.map_cons, ih.2 e]
        congr 1
        obtain ⟨x, kl⟩ := y
        rw [Tr.lab] at hk0
        rw [part_any ml hk0] at d ⊢
        rw [wrp_er] at d
        rw [wrp_t _ _ _ d]
        unfold keepS strS
        simp [Tr.lab, Tr.kids]
      · have he : (prtS ml true (seen ++ [y.lab.s]) l).2.2 ≠ 0 := e
        simp only [if_pos he]; exact ⟨by trivial, fun h => absurd h e⟩
    · have hd : (anyT ml y []).er ≠ 0 := d
      simp only [if_pos hd]; exact ⟨by trivial, fun h => absurd h d⟩
theorem prt_pl (ml : List VT) (keep : Bool) : ∀ (l : List VT) (seen : List ByteArray), (prtS ml keep seen l).2.2 = 0 → (prtS ml keep seen l).2.1 = 0
  | [], seen, _ => rfl
  | y :: l, seen, h => by
    unfold prtS at h ⊢
    split
    · rename_i c; rw [if_pos c] at h; exact absurd (show (9 : Int) = 0 from h) (by decide)
    rename_i c; rw [if_neg c] at h
    split
    · rename_i d; rw [if_pos d] at h; exact absurd h d
    rename_i d; rw [if_neg d] at h
    split
    · rename_i e; rw [if_pos e] at h; exact absurd h e
    · rfl
noncomputable def fnT13 (ml : List VT) (pl : List VT) (r b : VT) : LR := if (prtS ml true [] pl).2.2 ≠ 0 then ([], (prtS ml true [] pl).2) else thn (lstT ml [] [r]) (lstT ml (pl.map (·.lab.s)) [b])
noncomputable def strK (l : List VT) (k : Nat) : List VT := (l.take k).map strS ++ l.drop k
theorem strK_at {l : List VT} {k : Nat} {y : VT} (h : l[k]? = some y) : (strK l k)[k]? = some y := by
  have hl := (List.getElem?_eq_some_iff.1 h).1
  unfold strK
  rw [List.getElem?_append_right (by simp; omega)]
  simp [Nat.min_eq_left (Nat.le_of_lt hl), h]
theorem strK_set {l : List VT} {k : Nat} {y : VT} (h : l[k]? = some y) : (strK l k).set k (strS y) = strK l (k + 1) := by
  have hl := (List.getElem?_eq_some_iff.1 h).1
  have hy := (List.getElem?_eq_some_iff.1 h).2
  unfold strK
  rw [List.set_append_right _ _ (by simp; omega), List.length_map, List.length_take, Nat.min_eq_left (Nat.le_of_lt hl), Nat.sub_self, List.drop_eq_getElem_cons hl, hy, List.set_cons_zero, List.take_add_one, h, List.map_append]
  simp
set_option maxRecDepth 100000 in
set_option maxHeartbeats 4000000 in
theorem sfunc_row (ml : List VT) (p : Lab) (pl : List VT) (r b : VT) (hk : ∀ q ∈ pl, q.lab.k = 34) (hp : ∀ q ∈ pl, ∀ y ∈ q.kids, TOk ml y) (hr : TOk ml r) (hb : TOk ml b) (hsz : ∀ q ∈ pl, q.size ≤ 50000) (hlen : pl.length ≤ 40000) (hr1 : r.size ≤ 50000) (hb1 : b.size ≤ 50000) (E : List ByteArray) : ∃ acc E', ((fnT13 ml pl r b).2.2 = 0 → acc = .mk { p with s := ⟨#[]⟩ } ((prtS ml true [] pl).1.map strS) :: (fnT13 ml pl r b).1) ∧ OkE (pl.map (·.lab.s)) E' ∧ Row Try.prog 119 [vPt, vLs [.mk p pl, r, b]] [bxS 1 2 ml 0 0 0, arS E, mpS ml] (vLs acc) [some (bxS 3 2 ml pl.length (fnT13 ml pl r b).2.1 (fnT13 ml pl r b).2.2), none, some (mpS ml), some (arS E')] := by
  obtain ⟨accP, EP, a1, a2, r1⟩ := sparts_row ml pl hk hp (fun q hq => by have := hsz q hq; omega) (by omega) E
  obtain ⟨Nm, hNm⟩ : ∃ Nm, pl.map (·.lab.s) = Nm := ⟨_, rfl⟩
  have hNl : Nm.length = pl.length := by rw [← hNm, List.length_map]
  have hrb : ∀ y ∈ [r, b], TOk ml y := fun y hy => by simp at hy; rcases hy with rfl | rfl <;> assumption
  have hrbs : ∀ y ∈ [r, b], y.size ≤ 50000 := fun y hy => by simp at hy; rcases hy with rfl | rfl <;> assumption
  obtain ⟨accA, EA, b1, b2, b3, r2⟩ : ∃ accA EA, ((fnT13 ml pl r b).2.2 = 0 → accA = (fnT13 ml pl r b).1) ∧ OkE Nm EA ∧ accA.length ≤ 2 ∧ Row Try.prog 118 [vPt, vLs [r, b], vI ((1 : Nat) : Int), vSs Nm] [bxS 1 2 ml 0 (prtS ml true [] pl).2.1 (prtS ml true [] pl).2.2, arS EP, mpS ml] (vLs accA) [some (bxS 3 2 ml Nm.length (fnT13 ml pl r b).2.1 (fnT13 ml pl r b).2.2), none, some (mpS ml), some (arS EA)] := by
    unfold fnT13
    rw [hNm]
    by_cases h0 : (prtS ml true [] pl).2.2 = 0
    · rw [if_neg (by simpa using h0), h0, prt_pl ml true pl [] h0]
      obtain ⟨acc, E', c1, c2, hrow, c3⟩ := sarnd_row ml [r, b] hrb 1 Nm [] EP (okE0 EP) (fun y hy => by have := hrbs y hy; simp; omega) (by simp) (by simp; omega) (by omega)
      rw [List.nil_append, show [r, b].take 1 = [r] from rfl, show [r, b].drop 1 = [b] from rfl, List.length_nil, Nat.zero_add] at hrow
      rw [List.nil_append] at c2
      rw [List.nil_append, show [r, b].take 1 = [r] from rfl, show [r, b].drop 1 = [b] from rfl] at c1
      exact ⟨acc, E', c1, c2, c3, hrow⟩
    · rw [if_pos h0]
      obtain ⟨acc, E', c2, c3, hrow⟩ := sarnd_err ml [r, b] hrb 1 Nm EP (fun y hy => by have := hrbs y hy; omega) (by simp) (by omega) (by omega) _ _ h0
      exact ⟨acc, E', fun h => absurd h h0, c2, c3, hrow⟩
  obtain ⟨⟨rx, rl⟩, rfl⟩ : ∃ u, u = r := ⟨_, rfl⟩
  obtain ⟨⟨bx, bl⟩, rfl⟩ : ∃ u, u = b := ⟨_, rfl⟩
  refine ⟨.mk { p with s := ⟨#[]⟩ } (accP.map strS) :: accA, EA, fun h => ?_, by rw [hNm]; exact b2, ?_⟩
  · rw [b1 h, a1 (by
      unfold fnT13 at h
      by_cases h0 : (prtS ml true [] pl).2.2 = 0
      · exact h0
      · rw [if_pos h0] at h; exact absurd h h0)]
  rw [← hNl]
  generalize fnT13 ml pl (.mk rx rl) (.mk bx bl) = G at r2 ⊢
  obtain ⟨g0, g1, g2⟩ := G
  generalize prtS ml true [] pl = Q at r1 r2
  obtain ⟨q0, q1, q2⟩ := Q
  dsimp only at r1 r2 ⊢
  clear b1 a1 hrb hrbs hp hk hr hb
  have hNt : ∀ k, k < pl.length → ∀ y, pl[k]? = some y → Nm.take (k + 1) = Nm.take k ++ [y.lab.s] := fun k hk y hy => by
    rw [List.take_add_one, ← hNm, List.getElem?_map, hy]; rfl
  have hNf : Nm.take pl.length = Nm := by rw [← hNl, List.take_length]
  have l3 : (1 : Int) ≤ 3 := by decide
  refine row_of Try.func119 rfl rfl (Nat.le_of_ble_eq_true rfl) ?_
  repeat (first | refine aw_seq ?_ | refine aw_skip ?_ | refine aw_block ?_ | refine aw_exit ?_ | refine aw_ct rfl ?_ | refine aw_cf rfl ?_ | ((first | refine aw_reg (fun K hK => ?_) | refine aw_drw mixd (fun K hK => ?_) | fail); simp -implicitDefEqProofs; first | refine hK _ ?_ | refine hK _ _ (by rfl) ?_ | fail) | fail)
  refine aw_mvw 1 0 2 _ 9 1 0 (wsS E) rfl rfl (.inr rfl) (by dsimp only; omega) (by dsimp only; omega) ?_
  simp [St.mvw]
  refine aw_nil 6 9 1 (by simp) ?_
  refine aw_lp (ι := Nat) (fun k => mkSt [(0, vPt), (1, vLs [.mk p pl, .mk rx rl, .mk bx bl]), (5, .v (.c (.ptr 4 0))), (6, .v (.c (.row 5 1 (wsS (Nm.take k))))), (17, vLs pl), (18, vI (pl.length : Nat)), (19, vI (k : Nat))] [some (bxS 3 2 ml 0 0 0), none, some (mpS ml), some (arS E), some (.box (ta (.mk p pl))), some (.row 9 1)]) (fun k => k ≤ pl.length) (fun k => pl.length - k) 0 (Nat.zero_le _) (by unfold St.nil; exact cov_s [10, 18] rfl (by simp -implicitDefEqProofs) (by simp -implicitDefEqProofs) (by first | decide | (simp; done)) rfl (by simp)) (fun Z hI k hk => ?_)
  by_cases hkl : k < pl.length
  · obtain ⟨⟨ax, al⟩, hy⟩ : ∃ a, pl[k]? = some a := ⟨_, List.getElem?_eq_getElem hkl⟩
    have hy' := (List.getElem?_eq_some_iff.1 hy).2
    have w2 : IntKind.i64.wrap ((k : Nat) + 1 : Int) = (k : Nat) + 1 := i64i _ (by omega) (by omega)
    have hn := hNt k hkl _ hy
    rw [Tr.lab] at hn
    have hln : (Nm.take k).length = k := by rw [List.length_take]; omega
    obtain ⟨W, hW⟩ : ∃ W, Nm.take k = W := ⟨_, rfl⟩
    rw [hW] at hn hln ⊢
    have c1 : (k + 1) * 16 ≤ 140737488355328 := by omega
    have c2 : k + 1 ≤ 140737488355328 := by omega
    repeat (first | refine aw_seq ?_ | refine aw_skip ?_ | refine aw_block ?_ | refine aw_exit ?_ | refine aw_ct rfl ?_ | refine aw_cf rfl ?_ | ((first | refine aw_reg (fun K hK => ?_) | refine aw_drw mixd (fun K hK => ?_) | fail); simp -implicitDefEqProofs [hkl, hy, hy', w2, hln, c1, c2]; first | refine hK _ ?_ | refine hK _ _ (by rfl) ?_ | fail) | fail)
    refine ⟨k + 1, by omega, (by dsimp only; omega), ?_⟩
    rw [hI, hn]; exact cov_s [4, 15] rfl (by simp -implicitDefEqProofs) (by simp -implicitDefEqProofs) (by first | decide | (simp; done)) rfl (by simp)
  have : k = pl.length := by omega
  subst this
  rw [hNf]
  repeat' (first | refine aw_seq ?_ | refine aw_skip ?_ | refine aw_block ?_ | refine aw_exit ?_ | refine aw_ct rfl ?_ | refine aw_cf rfl ?_ | ((first | refine aw_reg (fun K hK => ?_) | refine aw_drw mixd (fun K hK => ?_) | refine ar_call (cgS r1 0 rfl ?_) | refine ard_call (dgS r1 0 rfl ?_) | fail); simp -implicitDefEqProofs) | refine hK _ ?_ | refine hK _ _ (by rfl) ?_ | fail)
  clear r1
  have s0 : strK accP 0 = accP := by unfold strK; simp
  have sN : strK accP pl.length = accP.map strS := by unfold strK; rw [← a2, List.take_length, List.drop_length, List.append_nil]
  have sL : ∀ k, (strK accP k).length = pl.length := fun k => by unfold strK; simp; omega
  refine aw_lp (ι := Nat) (fun k => mkSt [(0, vPt), (1, vLs [.mk p pl, .mk rx rl, .mk bx bl]), (5, .v (.c (.ptr 4 0))), (6, .v (.c (.row 5 1 (wsS Nm)))), (37, vI (pl.length : Nat)), (38, vI (k : Nat))] [some (bxS 3 2 ml 0 q1 q2), none, some (mpS ml), some (arS EP), some (.box [.pv (I p.k), .pv (I p.n), .pv (Sx ⟨#[]⟩), .arr 6 6 pl.length, .pv (I p.f), .pv (I p.t)]), some (.row 9 1), some (.arr 25 6 ((strK accP k).map tc))]) (fun k => k ≤ pl.length) (fun k => pl.length - k) 0 (Nat.zero_le _) (by rw [s0]; exact cov_s [4, 5, 13] rfl (by simp -implicitDefEqProofs) (by simp -implicitDefEqProofs) (by first | decide | (simp; done)) rfl (by simp)) (fun Z2 hI2 k hk2 => ?_)
  by_cases hkl2 : k < pl.length
  · obtain ⟨y, hy⟩ : ∃ a, accP[k]? = some a := ⟨_, List.getElem?_eq_getElem (by omega)⟩
    have hM := strK_at hy
    have hS := strK_set hy
    obtain ⟨⟨ax, al⟩, rfl⟩ : ∃ u, u = y := ⟨_, rfl⟩
    have hMl := sL k
    have w2 : IntKind.i64.wrap ((k : Nat) + 1 : Int) = (k : Nat) + 1 := i64i _ (by omega) (by omega)
    have hset : ((strK accP k).map tc).set k [I ax.k, I ax.n, Sx ⟨#[]⟩, .sl 6 (al.map tc), I ax.f, I ax.t] = (strK accP (k + 1)).map tc := by
      rw [← hS, List.map_set]; simp [strS, Tr.lab, Tr.kids]
    obtain ⟨M, hMM⟩ : ∃ M, strK accP k = M := ⟨_, rfl⟩
    rw [hMM] at hM hMl hset ⊢
    have hM' := (List.getElem?_eq_some_iff.1 hM).2
    have hMk : k < M.length := (List.getElem?_eq_some_iff.1 hM).1
    repeat (first | refine aw_seq ?_ | refine aw_skip ?_ | refine aw_block ?_ | refine aw_exit ?_ | refine aw_ct rfl ?_ | refine aw_cf rfl ?_ | ((first | refine aw_reg (fun K hK => ?_) | refine aw_drw mixd (fun K hK => ?_) | fail); simp -implicitDefEqProofs [hkl2, hM, hM', hMk, hMl, w2, hset]; first | refine hK _ ?_ | refine hK _ _ (by rfl) ?_ | fail) | fail)
    refine ⟨k + 1, by omega, (by dsimp only; omega), ?_⟩
    rw [hI2]; exact cov_s [4, 5, 6] rfl (by simp -implicitDefEqProofs [hset]) (by simp -implicitDefEqProofs [hset]) (by first | decide | (simp; done)) rfl (by simp)
  have : k = pl.length := by omega
  subst this
  rw [sN]
  refine aw_frz 6 25 6 ((accP.map strS).map tc) rfl ?_
  simp [St.frz, AV.frz, AT.frz, AC.frz, AO.frz]
  have d1 : (accA.length + 1) * 72 ≤ 140737488355328 := by omega
  have d2 : accA.length + 1 ≤ 140737488355328 := by omega
  have d3 : (1 + accA.length) * 72 ≤ 140737488355328 := by omega
  have d4 : 1 + accA.length ≤ 140737488355328 := by omega
  repeat' (first | refine aw_seq ?_ | refine aw_skip ?_ | refine aw_block ?_ | refine aw_exit ?_ | refine aw_ct rfl ?_ | refine aw_cf rfl ?_ | ((first | refine aw_reg (fun K hK => ?_) | refine aw_drw mixd (fun K hK => ?_) | refine ar_call (cgS r2 0 rfl ?_) | refine ard_call (dgS r2 0 rfl ?_) | fail); simp -implicitDefEqProofs [d1, d2, d3, d4]) | refine hK _ ?_ | refine hK _ _ (by rfl) ?_ | fail)
  refine aw_ret (fin_gS [] rfl ?_); simp -implicitDefEqProofs [FinG, resV, resT] <;> try rfl
end Go.Proofs.Ythkfdheoakbfnaa.am
end
section
namespace Go.Proofs.Ythkfdheoakbfnaa.am
open Go.ChangeShapes Go.WideShapes Go.ChangeAt Go.RowKit
open vt
set_option linter.unusedVariables false
set_option linter.unusedSimpArgs false
theorem fn_both (ml : List VT) (x p : Lab) (pl : List VT) (r b : VT) (hk : ∀ q ∈ pl, q.lab.k = 34) (hn : p.n = 0) : (fnS ml x p pl r b).er = (fnT13 ml pl r b).2.2 ∧ (fnS ml x p pl r b).pl = (fnT13 ml pl r b).2.1 ∧ ((fnT13 ml pl r b).2.2 = 0 → (fnS ml x p pl r b).t = .mk ⟨x.k, x.n, ⟨#[]⟩, x.f, x.t⟩ (.mk { p with s := ⟨#[]⟩ } ((prtS ml true [] pl).1.map strS) :: (fnT13 ml pl r b).1)) := by
  obtain ⟨e1, e2⟩ := prt_strip ml pl [] hk
  have h1 : ∀ L y, lstT ml L [y] = if (anyT ml y L).er ≠ 0 then ([], (anyT ml y L).pl, (anyT ml y L).er) else ([(anyT ml y L).t], 0, 0) := fun L y => by
    simp only [lstT]
    by_cases c : (anyT ml y L).er = 0 <;> simp [c]
  unfold fnS fnT13
  rw [h1, h1, e1]
  by_cases c0 : (prtS ml true [] pl).2.2 = 0
  · have c0' : ¬ (prtS ml true [] pl).2.2 ≠ 0 := by simpa using c0
    rw [e2 c0]
    simp only [if_neg c0']
    unfold thn
    by_cases c1 : (anyT ml r []).er = 0
    · have c1' : ¬ (anyT ml r []).er ≠ 0 := by simpa using c1
      simp only [if_neg c1']
      by_cases c2 : (anyT ml b (pl.map (·.lab.s))).er = 0
      · have c2' : ¬ (anyT ml b (pl.map (·.lab.s))).er ≠ 0 := by simpa using c2
        simp only [if_neg c2']
        refine ⟨by simp, by simp, fun _ => ?_⟩
        simp
        obtain ⟨pk, pn, ps, pf, pt⟩ := p
        dsimp only at hn ⊢
        rw [hn]
      · have c2' : (anyT ml b (pl.map (·.lab.s))).er ≠ 0 := c2
        simp only [if_pos c2']
        simp [c2]
    · have c1' : (anyT ml r []).er ≠ 0 := c1
      simp only [if_pos c1']
      simp [c1]
  · have c0' : (prtS ml true [] pl).2.2 ≠ 0 := c0
    simp only [if_pos c0']
    exact ⟨by trivial, by trivial, fun h => absurd h c0⟩
set_option maxRecDepth 100000 in
set_option maxHeartbeats 4000000 in
theorem sterm_fn (ml : List VT) (x p : Lab) (pl : List VT) (r b : VT) (k33 : x.k = 33) (hn : p.n = 0) (hk : ∀ q ∈ pl, q.lab.k = 34) (hp : ∀ q ∈ pl, ∀ y ∈ q.kids, TOk ml y) (hr : TOk ml r) (hb : TOk ml b) (hsz : ∀ q ∈ pl, q.size ≤ 50000) (hlen : pl.length ≤ 40000) (hr1 : r.size ≤ 50000) (hb1 : b.size ≤ 50000) (E : List ByteArray) : ∃ t' E', ((fnS ml x p pl r b).er = 0 → t' = (fnS ml x p pl r b).t) ∧ Row Try.prog 72 [vPt, vT (.mk x [.mk p pl, r, b])] [bxS 1 2 ml 0 0 0, arS E, mpS ml] (vT t') [some (bxS 3 2 ml 0 (fnS ml x p pl r b).pl (fnS ml x p pl r b).er), none, some (mpS ml), some (arS E')] := by
  obtain ⟨acc, E', a1, a2, hrow⟩ := sfunc_row ml p pl r b hk hp hr hb hsz hlen hr1 hb1 E
  obtain ⟨f1, f2, f3⟩ := fn_both ml x p pl r b hk hn
  rw [f1, f2]
  refine ⟨.mk ⟨x.k, x.n, ⟨#[]⟩, x.f, x.t⟩ acc, E', fun h => ?_, ?_⟩
  · rw [f3 h, a1 h]
  have i4 := a2.2
  rw [List.length_map] at i4
  generalize fnT13 ml pl r b = G at hrow ⊢
  obtain ⟨g0, g1, g2⟩ := G
  obtain ⟨⟨rx, rl⟩, rfl⟩ : ∃ u, u = r := ⟨_, rfl⟩
  obtain ⟨⟨bx, bl⟩, rfl⟩ : ∃ u, u = b := ⟨_, rfl⟩
  dsimp only at hrow ⊢
  clear f1 f2 f3 a1 a2 hp hr hb
  have z1 : (0 : Int) ≤ (pl.length : Nat) := by omega
  refine row_of Try.func72 rfl rfl (Nat.le_of_ble_eq_true rfl) ?_
  repeat' (first | refine aw_seq ?_ | refine aw_skip ?_ | refine aw_block ?_ | refine aw_exit ?_ | refine aw_ct rfl ?_ | refine aw_cf rfl ?_ | ((first | refine aw_reg (fun K hK => ?_) | refine aw_drw mixd (fun K hK => ?_) | refine ar_call (cgS hrow 0 rfl ?_) | refine ard_call (dgS hrow 0 rfl ?_) | fail); simp -implicitDefEqProofs [k33, i4, z1]) | refine hK _ ?_ | refine hK _ _ (by rfl) ?_ | fail)
  refine aw_ret (fin_gS [] rfl ?_); simp -implicitDefEqProofs [FinG, resV, resT, k33] <;> try rfl
theorem dec_any (ml : List VT) {x : Lab} {l : List VT} (hk : x.k = 31 ∨ x.k = 32) : anyT ml (.mk x l) [] = wrpS ⟨x.k, x.n, ⟨#[]⟩, x.f, x.t⟩ [] (lstT ml [] l) := by
  rw [anyT_mk, if_neg (by omega), if_neg (by unfold wrgS; rcases hk with hk | hk <;> simp [hk]), seqT_lst ml x [] (by omega) l 0 [] [] (fun e => by omega)]
  congr 1
  unfold outS
  rcases hk with hk | hk <;> simp [hk]
def DOk (ml : List VT) (d : VT) : Prop := ∀ E : List ByteArray, ∃ t' E', ((decS ml d).er = 0 → t' = (decS ml d).t) ∧ Row Try.prog 36 [vPt, vT d] [bxS 1 2 ml 0 0 0, arS E, mpS ml] (vT t') [some (bxS 3 2 ml 0 (decS ml d).pl (decS ml d).er), none, some (mpS ml), some (arS E')]
set_option maxRecDepth 100000 in
set_option maxHeartbeats 4000000 in
theorem sdecl_ok (ml : List VT) (hml : ml.length ≤ 100000) (d : VT) (hd : scpD d) (hkd : kndD d) (hsz : d.size ≤ 40000) : DOk ml d := by
  obtain ⟨x, l⟩ := d
  have hlen := Tr.len_size (x := x) (l := l)
  have hpart : ∀ y, y ∈ l → y.size ≤ 40000 := fun y hy => by
    obtain ⟨i, hi⟩ := List.mem_iff_getElem?.1 hy
    have := Tr.size_at (x := x) hi
    omega
  have hok : ∀ (y : VT), scpT y → TOk ml y := fun y hy => sterm_ok ml hml y hy
  intro E
  unfold scpD at hd
  unfold kndD at hkd
  unfold decS
  rw [Tr.lab] at hd hkd ⊢
  rw [Tr.kids] at hd ⊢
  by_cases k30 : x.k = 30
  · rw [if_pos k30] at hd
    simp only [if_pos k30]
    obtain ⟨acc, E', a1, a2, hr⟩ := sparts_row ml l (fun q hq => (hd q hq).1) (fun q hq y hy => hok y ((hd q hq).2 y hy)) (fun q hq => by have := hpart q hq; omega) (by omega) E
    rw [wrp_er, wrp_pl _ _ _ (prt_pl ml true l [])]
    refine ⟨.mk ⟨x.k, x.n, ⟨#[]⟩, x.f, x.t⟩ acc, E', fun h => ?_, ?_⟩
    · rw [wrp_t _ _ _ h, List.nil_append, a1 h]
    clear a1
    generalize prtS ml true [] l = G at hr ⊢
    obtain ⟨g0, g1, g2⟩ := G
    dsimp only at hr ⊢
    refine row_of Try.func36 rfl rfl (Nat.le_of_ble_eq_true rfl) ?_
    repeat' (first | refine aw_seq ?_ | refine aw_skip ?_ | refine aw_block ?_ | refine aw_exit ?_ | refine aw_ct rfl ?_ | refine aw_cf rfl ?_ | ((first | refine aw_reg (fun K hK => ?_) | refine aw_drw mixd (fun K hK => ?_) | refine ar_call (cgS hr 0 rfl ?_) | refine ard_call (dgS hr 0 rfl ?_) | fail); simp -implicitDefEqProofs [k30]) | refine hK _ ?_ | refine hK _ _ (by rfl) ?_ | fail)
    refine aw_frz 14 25 6 (acc.map tc) rfl ?_
    simp [St.frz, AV.frz, AT.frz, AC.frz, AO.frz]
    refine aw_ret (fin_gS [] rfl ?_); simp -implicitDefEqProofs [FinG, resV, resT, k30] <;> try rfl
  rw [if_neg k30] at hd
  simp only [if_neg k30]
  by_cases k33 : x.k = 33
  · rw [if_pos k33] at hd
    simp only [if_pos k33]
    obtain ⟨p, pl, r, b, hl, hp35, hn, hp, hr, hb⟩ := hd
    subst hl
    simp only [List.getD_cons_zero, List.getD_cons_succ, Tr.lab, Tr.kids]
    have hps := hpart (.mk p pl) (by simp)
    have hpl := Tr.len_size (x := p) (l := pl)
    obtain ⟨t', E', a1, hrow⟩ := sterm_fn ml { x with s := ⟨#[]⟩ } p pl r b k33 hn (fun q hq => (hp q hq).1) (fun q hq y hy => hok y ((hp q hq).2 y hy)) (hok r hr) (hok b hb) (fun q hq => by
      obtain ⟨i, hi⟩ := List.mem_iff_getElem?.1 hq
      have := Tr.size_at (x := p) hi
      omega) (by omega) (by have := hpart r (by simp); omega) (by have := hpart b (by simp); omega) E
    have hfs : fnS ml { x with s := ⟨#[]⟩ } p pl r b = fnS ml x p pl r b := rfl
    rw [hfs] at a1 hrow
    refine ⟨t', E', a1, ?_⟩
    generalize fnS ml x p pl r b = G at hrow ⊢
    obtain ⟨g0, g1, g2⟩ := G
    obtain ⟨⟨tx, tl⟩, rfl⟩ : ∃ u, u = t' := ⟨_, rfl⟩
    obtain ⟨⟨rx, rl⟩, rfl⟩ : ∃ u, u = r := ⟨_, rfl⟩
    obtain ⟨⟨bx, bl⟩, rfl⟩ : ∃ u, u = b := ⟨_, rfl⟩
    dsimp only at hrow ⊢
    clear a1 hp hr hb hok hpart hfs
    refine row_of Try.func36 rfl rfl (Nat.le_of_ble_eq_true rfl) ?_
    repeat' (first | refine aw_seq ?_ | refine aw_skip ?_ | refine aw_block ?_ | refine aw_exit ?_ | refine aw_ct rfl ?_ | refine aw_cf rfl ?_ | ((first | refine aw_reg (fun K hK => ?_) | refine aw_drw mixd (fun K hK => ?_) | refine ar_call (cgS hrow 0 rfl ?_) | refine ard_call (dgS hrow 0 rfl ?_) | fail); simp -implicitDefEqProofs [k33]) | refine hK _ ?_ | refine hK _ _ (by rfl) ?_ | fail)
    refine aw_ret (fin_gS [] rfl ?_); simp -implicitDefEqProofs [FinG, resV, resT] <;> try rfl
  · rw [if_neg k33] at hd
    simp only [if_neg k33]
    have hk2 : x.k = 31 ∨ x.k = 32 := by omega
    obtain ⟨q1, q2, q3⟩ := (scpT_mk x l).1 hd
    obtain ⟨t', E', a1, a2, hrow⟩ := hok (.mk { x with s := ⟨#[]⟩ } l) ((scpT_mk _ _).2 ⟨q1, q2, q3⟩) [] E (okE0 E) (by
      have : Tr.size (Tr.mk { x with s := (⟨#[]⟩ : ByteArray) } l) = Tr.size (Tr.mk x l) := by rw [Tr.size_mk, Tr.size_mk]
      simp only [List.length_nil]
      omega)
    have ha : anyT ml (.mk { x with s := ⟨#[]⟩ } l) [] = anyT ml (.mk x l) [] := (dec_any ml (x := { x with s := ⟨#[]⟩ }) hk2).trans (dec_any ml hk2).symm
    rw [ha] at a1 hrow
    rw [List.length_nil] at hrow
    refine ⟨t', E', a1, ?_⟩
    generalize anyT ml (.mk x l) [] = G at hrow ⊢
    obtain ⟨g0, g1, g2⟩ := G
    obtain ⟨⟨tx, tl⟩, rfl⟩ : ∃ u, u = t' := ⟨_, rfl⟩
    dsimp only at hrow ⊢
    clear a1 ha hok hpart
    refine row_of Try.func36 rfl rfl (Nat.le_of_ble_eq_true rfl) ?_
    repeat' (first | refine aw_seq ?_ | refine aw_skip ?_ | refine aw_block ?_ | refine aw_exit ?_ | refine aw_ct rfl ?_ | refine aw_cf rfl ?_ | ((first | refine aw_reg (fun K hK => ?_) | refine aw_drw mixd (fun K hK => ?_) | refine ar_call (cgS hrow 0 rfl ?_) | refine ard_call (dgS hrow 0 rfl ?_) | fail); simp -implicitDefEqProofs [k30]) | refine hK _ ?_ | refine hK _ _ (by rfl) ?_ | fail)
    refine aw_ret (fin_gS [] rfl ?_); simp -implicitDefEqProofs [FinG, resV, resT] <;> try rfl
end Go.Proofs.Ythkfdheoakbfnaa.am
end
section
namespace Go.Proofs.Ythkfdheoakbfnaa.am
open Go.ChangeShapes Go.WideShapes Go.ChangeAt Go.RowKit
open vt
set_option linter.unusedVariables false
set_option linter.unusedSimpArgs false
noncomputable abbrev bxD (ml : List VT) (a e : Int) : AO := .box [.pv (.sl 6 (ml.map tc)), .map 1, .pv .nilS, .pv (I a), .pv (I e)]
set_option maxRecDepth 100000 in
set_option maxHeartbeats 4000000 in
theorem sfailD_row (ml : List VT) (x : Lab) (l : List VT) (M : List (Value × PT)) : Row Try.prog 70 [vPt, vT (.mk x l), vI 9] [bxD ml 0 0, .mp none M] (.tup []) [some (bxD ml x.f 9), some (.mp none M)] := by
  refine row_of Try.func70 rfl rfl (Nat.le_of_ble_eq_true rfl) ?_
  repeat (first | refine aw_seq ?_ | refine aw_skip ?_ | refine aw_block ?_ | refine aw_exit ?_ | refine aw_ct rfl ?_ | refine aw_cf rfl ?_ | ((first | refine aw_reg (fun K hK => ?_) | refine aw_drw mixd (fun K hK => ?_) | fail); simp -implicitDefEqProofs; first | refine hK _ ?_ | refine hK _ _ (by rfl) ?_ | fail) | fail)
  refine fin_fall (fin_g [0, 1] ?_); simp -implicitDefEqProofs [FinG, resV, resT] <;> try rfl
set_option maxRecDepth 100000 in
set_option maxHeartbeats 4000000 in
theorem sdecs_row (ml : List VT) (hml : ml.length ≤ 100000) : ∃ M, (twcS [] ml = none → M = plF 0 ml) ∧ Row Try.prog 35 [vPt] [bxD ml 0 0, .mp none []] (.tup []) [some (bxD ml (match twcS [] ml with | some f => f | none => 0) (match twcS [] ml with | some _ => 9 | none => 0)), some (.mp none M)] := by
  obtain ⟨R, hR⟩ : ∃ R, twcS [] ml = R := ⟨_, rfl⟩
  -- where the first one stands that is there twice
  obtain ⟨j, hj, hj1, hj2⟩ : ∃ j, j ≤ ml.length ∧ (∀ k, k ≤ j → twcS [] (ml.take k) = none) ∧ (j < ml.length → ∀ y, ml[j]? = some y → hasS ((ml.take j).map (·.lab.s)) y.lab.s = true ∧ R = some y.lab.f) := by
    clear hml
    have key : ∀ n, n ≤ ml.length → (∀ k, k ≤ n → twcS [] (ml.take k) = none) ∨ ∃ j, j < n ∧ (∀ k, k ≤ j → twcS [] (ml.take k) = none) ∧ ∀ y, ml[j]? = some y → hasS ((ml.take j).map (·.lab.s)) y.lab.s = true ∧ R = some y.lab.f := by
      intro n
      induction n with
      | zero => intro _; exact .inl (fun k hk => by have : k = 0 := by omega
                                                    subst this; rfl)
      | succ n ih =>
        intro hn
        rcases ih (by omega) with h | ⟨j, h1, h2, h3⟩
        · obtain ⟨y, hy⟩ : ∃ y, ml[n]? = some y := ⟨_, List.getElem?_eq_getElem (by omega)⟩
          have ht := twc_snoc' ml n y hy (h n (Nat.le_refl _))
          by_cases c : hasS ((ml.take n).map (·.lab.s)) y.lab.s = true
          · rw [if_pos c] at ht
            refine .inr ⟨n, by omega, h, fun y' hy' => ?_⟩
            rw [hy] at hy'; cases hy'
            refine ⟨c, ?_⟩
            rw [← hR]
            have := twc_some (ml.take (n + 1)) (ml.drop (n + 1)) [] ht
            rw [List.take_append_drop] at this
            exact this
          · rw [if_neg c] at ht
            refine .inl (fun k hk => ?_)
            by_cases hk' : k = n + 1
            · subst hk'; exact ht
            · exact h k (by omega)
        · exact .inr ⟨j, by omega, h2, h3⟩
    rcases key ml.length (Nat.le_refl _) with h | ⟨j, h1, h2, h3⟩
    · exact ⟨ml.length, Nat.le_refl _, h, fun h' => by omega⟩
    · exact ⟨j, by omega, h2, fun _ => h3⟩
  rw [hR]
  refine ⟨plF 0 (ml.take j), fun h => ?_, ?_⟩
  · have : ¬ j < ml.length := fun hlt => by
      obtain ⟨y, hy⟩ : ∃ y, ml[j]? = some y := ⟨_, List.getElem?_eq_getElem hlt⟩
      have := (hj2 hlt y hy).2
      rw [h] at this; cases this
    rw [List.take_of_length_le (by omega)]
  have hRn : j = ml.length → R = none := fun h => by
    have := hj1 j (Nat.le_refl _)
    rw [h, List.take_length, hR] at this; exact this
  clear hR
  have p0 : plF 0 (ml.take 0) = [] := rfl
  refine row_of Try.func35 rfl rfl (Nat.le_of_ble_eq_true rfl) ?_
  repeat (first | refine aw_seq ?_ | refine aw_skip ?_ | refine aw_block ?_ | refine aw_exit ?_ | refine aw_ct rfl ?_ | refine aw_cf rfl ?_ | ((first | refine aw_reg (fun K hK => ?_) | refine aw_drw mixd (fun K hK => ?_) | fail); simp -implicitDefEqProofs; first | refine hK _ ?_ | refine hK _ _ (by rfl) ?_ | fail) | fail)
  refine aw_lp (ι := Nat) (fun k => mkSt [(0, vPt), (9, vLs ml), (10, vI (ml.length : Nat)), (11, vI (k : Nat))] [some (bxD ml 0 0), some (.mp none (plF 0 (ml.take k)))]) (fun k => k ≤ j) (fun k => ml.length - k) 0 (Nat.zero_le _) (by rw [p0]; exact cov_intro [0, 1] (by simp -implicitDefEqProofs) (by simp -implicitDefEqProofs) (by decide) rfl (by simp)) (fun Z hI k hk => ?_)
  by_cases hkl : k < ml.length; rotate_left
  · have e1 : j = ml.length := by omega
    have e2 : k = ml.length := by omega
    have := hRn e1
    subst this
    subst e2
    rw [e1]
    repeat (first | refine aw_seq ?_ | refine aw_skip ?_ | refine aw_block ?_ | refine aw_exit ?_ | refine aw_ct rfl ?_ | refine aw_cf rfl ?_ | ((first | refine aw_reg (fun K hK => ?_) | refine aw_drw mixd (fun K hK => ?_) | fail); simp -implicitDefEqProofs; first | refine hK _ ?_ | refine hK _ _ (by rfl) ?_ | fail) | fail)
    refine fin_fall (fin_g [0, 1] ?_); simp -implicitDefEqProofs [FinG, resV, resT] <;> try rfl
  obtain ⟨⟨ax, al⟩, hy⟩ : ∃ a, ml[k]? = some a := ⟨_, List.getElem?_eq_getElem hkl⟩
  have hy' := (List.getElem?_eq_some_iff.1 hy).2
  have w2 : IntKind.i64.wrap ((k : Nat) + 1 : Int) = (k : Nat) + 1 := i64i _ (by omega) (by omega)
  have hlk := plF_look ax.s (ml.take k) 0
  by_cases hkj : k < j
  · have h1 := hj1 (k + 1) (by omega)
    rw [twc_snoc' ml k _ hy (hj1 k (by omega)), Tr.lab] at h1
    have hno : hasS ((ml.take k).map (·.lab.s)) ax.s = false := by
      cases hq : hasS ((ml.take k).map (·.lab.s)) ax.s with
      | false => rfl
      | true => rw [hq] at h1; simp at h1
    rw [dcl_none.2 hno, Option.map_none] at hlk
    have hput := plF_put ax.s (.c (I (k : Nat))) _ hlk
    have hsn : plF 0 (ml.take (k + 1)) = plF 0 (ml.take k) ++ [(.string ax.s, .c (I (k : Nat)))] := by
      rw [show ml.take (k + 1) = ml.take k ++ [.mk ax al] by rw [List.take_add_one, hy]; rfl, plF_snoc]
      simp [Tr.lab, Nat.min_eq_left (Nat.le_of_lt hkl)]
    rw [← hsn] at hput
    generalize plF 0 (ml.take k) = M at hlk hput ⊢
    repeat (first | refine aw_seq ?_ | refine aw_skip ?_ | refine aw_block ?_ | refine aw_exit ?_ | refine aw_ct rfl ?_ | refine aw_cf rfl ?_ | ((first | refine aw_reg (fun K hK => ?_) | refine aw_drw mixd (fun K hK => ?_) | fail); simp -implicitDefEqProofs [hkl, hy, hy', w2, hlk, hput]; first | refine hK _ ?_ | refine hK _ _ (by rfl) ?_ | fail) | fail)
    refine ⟨k + 1, by omega, (by dsimp only; omega), ?_⟩
    rw [hI]; exact cov_intro [0, 1] (by simp -implicitDefEqProofs) (by simp -implicitDefEqProofs) (by decide) rfl (by simp)
  · have hkj' : k = j := by omega
    subst hkj'
    obtain ⟨g1, g2⟩ := hj2 hkl _ hy
    rw [Tr.lab] at g1 g2
    subst g2
    obtain ⟨i, hi⟩ : ∃ i, dcl (ml.take k) ax.s = some i := by
      cases hq : dcl (ml.take k) ax.s with
      | none => rw [dcl_none.1 hq] at g1; cases g1
      | some i => exact ⟨i, rfl⟩
    rw [hi, Option.map_some] at hlk
    have hf := sfailD_row ml ax al (plF 0 (ml.take k))
    generalize plF 0 (ml.take k) = M at hlk hf ⊢
    repeat' (first | refine aw_seq ?_ | refine aw_skip ?_ | refine aw_block ?_ | refine aw_exit ?_ | refine aw_ct rfl ?_ | refine aw_cf rfl ?_ | ((first | refine aw_reg (fun K hK => ?_) | refine aw_drw mixd (fun K hK => ?_) | refine ar_call (cg hf [0,1] ?_) | refine ard_call (dg hf [0,1] ?_) | fail); simp -implicitDefEqProofs [hkl, hy, hy', hlk]) | refine hK _ ?_ | refine hK _ _ (by rfl) ?_ | fail)
    refine aw_ret (fin_g [0, 1] ?_); simp -implicitDefEqProofs [FinG, resV, resT] <;> try rfl
end Go.Proofs.Ythkfdheoakbfnaa.am
end
section
namespace Go.Proofs.Ythkfdheoakbfnaa.am
open Go.ChangeShapes Go.WideShapes Go.ChangeAt Go.RowKit
open vt
set_option linter.unusedVariables false
set_option linter.unusedSimpArgs false
theorem dec_pl (ml : List VT) (d : VT) (h : (decS ml d).er = 0) : (decS ml d).pl = 0 := by
  unfold decS at h ⊢
  split
  · rename_i c; rw [if_pos c] at h
    rw [wrp_er] at h
    rw [wrp_pl _ _ _ (prt_pl ml true d.kids [])]
    exact prt_pl ml true d.kids [] h
  · rename_i c; rw [if_neg c] at h
    split
    · rename_i c; rw [if_pos c] at h
      unfold fnS at h ⊢
      split
      · rename_i c; rw [if_pos c] at h; exact absurd h c
      rename_i c; rw [if_neg c] at h
      split
      · rename_i c; rw [if_pos c] at h; exact absurd h c
      rename_i c; rw [if_neg c] at h
      split
      · rename_i c; rw [if_pos c] at h; exact absurd h c
      · rfl
    · rename_i c; rw [if_neg c] at h; exact any_pl ml d [] h
theorem decsS_pl (ml : List VT) : ∀ l : List VT, (decsS ml l).2.2 = 0 → (decsS ml l).2.1 = 0
  | [], _ => rfl
  | y :: r, h => by
    unfold decsS at h ⊢
    split
    · rename_i c; rw [if_pos c] at h; exact absurd h c
    · rename_i c; rw [if_neg c] at h
      split
      · rename_i d; rw [if_pos d] at h; exact absurd h d
      · rfl
theorem dok_fun {ml l : List VT} (h : ∀ y ∈ l, DOk ml y) : ∃ (ft : Nat → List ByteArray → VT) (fE : Nat → List ByteArray → List ByteArray), ∀ k y E, l[k]? = some y → ((decS ml y).er = 0 → ft k E = (decS ml y).t) ∧ Row Try.prog 36 [vPt, vT y] [bxS 1 2 ml 0 0 0, arS E, mpS ml] (vT (ft k E)) [some (bxS 3 2 ml 0 (decS ml y).pl (decS ml y).er), none, some (mpS ml), some (arS (fE k E))] := by
  have key : ∀ (k : Nat) (E : List ByteArray), ∃ t' E', ∀ y, l[k]? = some y → ((decS ml y).er = 0 → t' = (decS ml y).t) ∧ Row Try.prog 36 [vPt, vT y] [bxS 1 2 ml 0 0 0, arS E, mpS ml] (vT t') [some (bxS 3 2 ml 0 (decS ml y).pl (decS ml y).er), none, some (mpS ml), some (arS E')] := by
    intro k E
    by_cases hc : ∃ y, l[k]? = some y
    · obtain ⟨y, h1⟩ := hc
      obtain ⟨t', E', h4⟩ := h y (List.mem_of_getElem? h1) E
      exact ⟨t', E', fun z hz => by rw [h1] at hz; cases hz; exact h4⟩
    · exact ⟨z0T, [], fun y h1 => absurd ⟨y, h1⟩ hc⟩
  exact ⟨fun k E => Classical.choose (key k E), fun k E => Classical.choose (Classical.choose_spec (key k E)), fun k y E h1 => Classical.choose_spec (Classical.choose_spec (key k E)) y h1⟩
noncomputable def stD (ml : List VT) (ft : Nat → List ByteArray → VT) (fE : Nat → List ByteArray → List ByteArray) (k : Nat) (s : Sq) : Sq := ⟨s.acc ++ [ft k s.E], [], fE k s.E, (decS ml (ml.getD k z0T)).pl, (decS ml (ml.getD k z0T)).er⟩
structure InvD (ml : List VT) (a e : Int) (k : Nat) (s : Sq) : Prop where
  len : s.acc.length ≤ k
  pl : s.pl = if e = 0 then (decsS ml (ml.take k)).2.1 else a
  er : s.er = if e = 0 then (decsS ml (ml.take k)).2.2 else e
  acc : s.er = 0 → s.acc = (decsS ml (ml.take k)).1
theorem sqD_inv {ml : List VT} {a e : Int} (ha : e = 0 → a = 0) {ft : Nat → List ByteArray → VT} {fE : Nat → List ByteArray → List ByteArray} (hf : ∀ k y E, ml[k]? = some y → (decS ml y).er = 0 → ft k E = (decS ml y).t) : ∀ k, k ≤ ml.length → InvD ml a e k (sqN (stD ml ft fE) ⟨[], [], [], a, e⟩ k)
  | 0, _ => ⟨Nat.le_refl _, by
      show a = _
      by_cases h : e = 0
      · rw [if_pos h, ha h]; rfl
      · rw [if_neg h], by
      show e = _
      by_cases h : e = 0
      · rw [if_pos h, h]; rfl
      · rw [if_neg h], fun _ => rfl⟩
  | k + 1, hk => by
    have ih := sqD_inv (fE := fE) ha hf k (by omega)
    obtain ⟨y, hy⟩ : ∃ y, ml[k]? = some y := ⟨_, List.getElem?_eq_getElem (by omega)⟩
    have hgd : ml.getD k z0T = y := by rw [List.getD_eq_getElem?_getD, hy]; rfl
    have htk : ml.take (k + 1) = ml.take k ++ [y] := by rw [List.take_add_one, hy]; rfl
    have hs := decsS_snoc ml y (ml.take k)
    rw [← htk] at hs
    unfold sqN
    generalize sqN (stD ml ft fE) ⟨[], [], [], a, e⟩ k = s at ih
    obtain ⟨len, pl, er, acc⟩ := ih
    by_cases h : s.er = 0
    · rw [if_pos h]
      unfold stD
      rw [hgd]
      by_cases h0 : e = 0
      · rw [if_pos h0] at pl er
        rw [if_neg (by rw [← er]; simpa using h)] at hs
        by_cases h2 : (decS ml y).er = 0
        · rw [if_neg (by simpa using h2)] at hs
          refine ⟨by simp; omega, ?_, ?_, fun _ => ?_⟩
          · dsimp only; rw [if_pos h0, hs]; exact dec_pl ml y h2
          · dsimp only; rw [if_pos h0, hs]; exact h2
          · dsimp only; rw [hs, acc h, hf k y s.E hy h2]
        · rw [if_pos h2] at hs
          refine ⟨by simp; omega, ?_, ?_, fun h3 => absurd h3 h2⟩
          · dsimp only; rw [if_pos h0, hs]
          · dsimp only; rw [if_pos h0, hs]
      · rw [if_neg h0] at er
        exact absurd (er ▸ h) h0
    · rw [if_neg h]
      refine ⟨by omega, ?_, ?_, fun h3 => absurd h3 h⟩
      · by_cases h0 : e = 0
        · rw [if_pos h0] at pl er ⊢
          rw [hs, if_pos (by rw [← er]; exact h)]; exact pl
        · rw [if_neg h0] at pl ⊢; exact pl
      · by_cases h0 : e = 0
        · rw [if_pos h0] at er ⊢
          rw [hs, if_pos (by rw [← er]; exact h)]; exact er
        · rw [if_neg h0] at er ⊢; exact er
set_option maxRecDepth 100000 in
set_option maxHeartbeats 4000000 in
theorem sres_row (x : Lab) (ml : List VT) (hml : ml.length ≤ 100000) (hd : ∀ d ∈ ml, DOk ml d) : Row Try.prog 11 [vT (.mk x ml)] [] (vT3i ((resS x ml).t, (resS x ml).pl, (resS x ml).er)) [] := by
  obtain ⟨M, hM, hdr⟩ := sdecs_row ml hml
  obtain ⟨ft, fE, hf⟩ := dok_fun hd
  obtain ⟨a0, e0, hdr, hae, hM0, htw⟩ : ∃ a0 e0 : Int, Row Try.prog 35 [vPt] [bxD ml 0 0, .mp none []] (.tup []) [some (bxD ml a0 e0), some (.mp none M)] ∧ (e0 = 0 → a0 = 0) ∧ (e0 = 0 → M = plF 0 ml) ∧ ((e0 = 9 ∧ resS x ml = ⟨z0T, a0, 9⟩) ∨ (e0 = 0 ∧ resS x ml = wrpS ⟨x.k, x.n, ⟨#[]⟩, x.f, x.t⟩ [] (decsS ml ml))) := by
    have hres : resS x ml = match twcS [] ml with | some f => ⟨z0T, f, 9⟩ | none => wrpS ⟨x.k, x.n, ⟨#[]⟩, x.f, x.t⟩ [] (decsS ml ml) := rfl
    cases ht : twcS [] ml with
    | some f =>
      rw [ht] at hdr hres
      exact ⟨f, 9, hdr, fun h => absurd h (by decide), fun h => absurd h (by decide), .inl ⟨rfl, hres⟩⟩
    | none =>
      rw [ht] at hdr hres
      exact ⟨0, 0, hdr, fun _ => rfl, fun _ => hM ht, .inr ⟨rfl, hres⟩⟩
  have hinv := sqD_inv (ml := ml) (fE := fE) hae (fun k y E h1 h2 => (hf k y E h1).1 h2)
  have hstp : ∀ k, sqN (stD ml ft fE) ⟨[], [], [], a0, e0⟩ (k + 1) = if (sqN (stD ml ft fE) ⟨[], [], [], a0, e0⟩ k).er = 0 then stD ml ft fE k (sqN (stD ml ft fE) ⟨[], [], [], a0, e0⟩ k) else sqN (stD ml ft fE) ⟨[], [], [], a0, e0⟩ k := fun k => rfl
  have h00 : sqN (stD ml ft fE) ⟨[], [], [], a0, e0⟩ 0 = ⟨[], [], [], a0, e0⟩ := rfl
  obtain ⟨S, hS⟩ : ∃ S, sqN (stD ml ft fE) ⟨[], [], [], a0, e0⟩ = S := ⟨_, rfl⟩
  rw [hS] at hinv hstp h00
  have hend := hinv ml.length (Nat.le_refl _)
  have e1 := hend.pl
  have e2 := hend.er
  have e3 := hend.acc
  rw [List.take_length] at e1 e2 e3
  have hfin : ((S ml.length).er ≠ 0 → (resS x ml).t = z0T) ∧ ((S ml.length).er = 0 → (resS x ml).t = .mk ⟨x.k, x.n, ⟨#[]⟩, x.f, x.t⟩ (S ml.length).acc) ∧ (resS x ml).pl = (S ml.length).pl ∧ (resS x ml).er = (S ml.length).er := by
    rcases htw with ⟨h9, hres⟩ | ⟨h9, hres⟩
    · have hne : e0 ≠ 0 := by rw [h9]; decide
      rw [if_neg hne] at e1 e2
      rw [hres, e1, e2, h9]
      exact ⟨fun _ => rfl, fun h => absurd h (by decide), rfl, rfl⟩
    · rw [if_pos h9] at e1 e2
      rw [hres, wrp_er, wrp_pl _ _ _ (decsS_pl ml ml), e1, e2]
      refine ⟨fun h => ?_, fun h => ?_, rfl, rfl⟩
      · unfold wrpS; rw [if_pos h]
      · rw [wrp_t _ _ _ h, List.nil_append, e3 (by rw [e2]; exact h)]
  obtain ⟨f1, f2, f3, f4⟩ := hfin
  rw [f3, f4]
  generalize (resS x ml).t = rt at f1 f2 ⊢
  clear hend e1 e2 e3 hS f3 f4 hM htw
  have c1 : (S 0).acc = [] := by rw [h00]
  have c2 : (S 0).E = [] := by rw [h00]
  have c3 : (S 0).pl = a0 := by rw [h00]
  have c4 : (S 0).er = e0 := by rw [h00]
  have hst : ∀ k, e0 ≠ 0 → k ≤ ml.length → (S k).er ≠ 0 := fun k h hk => by rw [(hinv k hk).er, if_neg h]; exact h
  refine row_of Try.func11 rfl rfl (Nat.le_of_ble_eq_true rfl) ?_
  repeat' (first | refine aw_seq ?_ | refine aw_skip ?_ | refine aw_block ?_ | refine aw_exit ?_ | refine aw_ct rfl ?_ | refine aw_cf rfl ?_ | ((first | refine aw_reg (fun K hK => ?_) | refine aw_drw mixd (fun K hK => ?_) | refine ar_call (cg hdr [8,6] ?_) | refine ard_call (dg hdr [8,6] ?_) | fail); simp -implicitDefEqProofs) | refine hK _ ?_ | refine hK _ _ (by rfl) ?_ | fail)
  clear hdr
  refine aw_nilca 8 2 _ 9 1 rfl rfl (by dsimp only; omega) ?_
  simp [St.nilca]
  refine aw_mvw 30 8 2 _ 9 1 0 [] rfl rfl (.inl rfl) (by dsimp only; omega) (by dsimp only; omega) ?_
  simp [St.mvw]
  refine aw_nilc 20 3 _ 25 6 rfl rfl (by dsimp only; omega) ?_
  simp [St.nilc]
  refine aw_lp (ι := Nat) (fun k => mkSt [(1, .v (.c (.ptr 0 0))), (2, .v (.c (.ptr 1 0))), (3, vI 0), (4, vI 0), (5, .v (.c (.ptr 2 0))), (6, .v (.c (.ptr 5 0))), (20, vLs ml), (21, vI (ml.length : Nat)), (22, vI (k : Nat))] [some (.box (ta (.mk x ml))), some zTb, some (.box [.pv (.sl 6 (ml.map tc)), .map 4, .vw 3 1 0 0, .pv (I (S k).pl), .pv (I (S k).er)]), some (arS (S k).E), some (.mp none M), some (.box [.pv (I x.k), .pv (I x.n), .pv (Sx ⟨#[]⟩), .row 6 6 ((S k).acc.map tc), .pv (I x.f), .pv (I x.t)]), some (.row 25 6)]) (fun k => k ≤ ml.length) (fun k => ml.length - k) 0 (Nat.zero_le _) (by rw [c1, c2, c3, c4]; exact cov_intro [0, 1, 8, 31, 6, 20, 32] (by simp -implicitDefEqProofs) (by simp -implicitDefEqProofs) (by decide) rfl (by simp)) (fun Z hI k hk => ?_)
  by_cases hkl : k < ml.length; rotate_left
  · have : k = ml.length := by omega
    subst this
    by_cases hq : (S ml.length).er = 0
    · have := f2 hq
      subst this
      have hp : (S ml.length).pl = 0 := by
        have h1 := hinv ml.length (Nat.le_refl _)
        by_cases h0 : e0 = 0
        · rw [h1.pl, if_pos h0]; exact decsS_pl ml _ (by have := h1.er; rw [if_pos h0] at this; rw [← this]; exact hq)
        · exact absurd hq (hst _ h0 (Nat.le_refl _))
      rw [hq, hp]
      repeat (first | refine aw_seq ?_ | refine aw_skip ?_ | refine aw_block ?_ | refine aw_exit ?_ | refine aw_ct rfl ?_ | refine aw_cf rfl ?_ | ((first | refine aw_reg (fun K hK => ?_) | refine aw_drw mixd (fun K hK => ?_) | fail); simp -implicitDefEqProofs; first | refine hK _ ?_ | refine hK _ _ (by rfl) ?_ | fail) | fail)
      refine aw_ret (fin_ret ?_); simp -implicitDefEqProofs [FinP, resV, resT] <;> try rfl
    · have := f1 hq
      subst this
      repeat (first | refine aw_seq ?_ | refine aw_skip ?_ | refine aw_block ?_ | refine aw_exit ?_ | refine aw_ct rfl ?_ | refine aw_cf rfl ?_ | ((first | refine aw_reg (fun K hK => ?_) | refine aw_drw mixd (fun K hK => ?_) | fail); simp -implicitDefEqProofs [hq]; first | refine hK _ ?_ | refine hK _ _ (by rfl) ?_ | fail) | fail)
      refine aw_ret (fin_ret ?_); simp -implicitDefEqProofs [FinP, resV, resT] <;> try rfl
  clear f1 f2
  obtain ⟨⟨ax, al⟩, hy⟩ : ∃ a, ml[k]? = some a := ⟨_, List.getElem?_eq_getElem hkl⟩
  have hy' := (List.getElem?_eq_some_iff.1 hy).2
  have w2 : IntKind.i64.wrap ((k : Nat) + 1 : Int) = (k : Nat) + 1 := i64i _ (by omega) (by omega)
  have hs := hstp k
  have hi := hinv k hk
  have hgd : ml.getD k z0T = .mk ax al := by rw [List.getD_eq_getElem?_getD, hy]; rfl
  by_cases hq : (S k).er = 0
  · have h0 : e0 = 0 := by
      by_cases h0 : e0 = 0
      · exact h0
      · exact absurd hq (hst _ h0 hk)
    have hp : (S k).pl = 0 := by
      rw [hi.pl, if_pos h0]; exact decsS_pl ml _ (by have := hi.er; rw [if_pos h0] at this; rw [← this]; exact hq)
    have hMM := hM0 h0
    subst hMM
    have hr := (hf k _ (S k).E hy).2
    have len := hi.len
    rw [if_pos hq] at hs
    unfold stD at hs
    rw [hgd] at hs
    rw [hq, hp]
    obtain ⟨⟨tx, tl⟩, ht⟩ : ∃ t, ft k (S k).E = t := ⟨_, rfl⟩
    rw [ht] at hr hs
    obtain ⟨E2, hE2⟩ : ∃ E2, fE k (S k).E = E2 := ⟨_, rfl⟩
    rw [hE2] at hr hs
    generalize (S k).E = E1 at hr ⊢
    generalize (decS ml (.mk ax al)).pl = p2 at hr hs
    generalize (decS ml (.mk ax al)).er = q2 at hr hs
    generalize (S k).acc = acc at hs len ⊢
    have b1 : (acc.length + 1) * 72 ≤ 140737488355328 := by omega
    have b2 : acc.length + 1 ≤ 140737488355328 := by omega
    clear hM0 hst hinv hstp h00 c1 c2 c3 c4 hi
    repeat' (first | refine aw_seq ?_ | refine aw_skip ?_ | refine aw_block ?_ | refine aw_exit ?_ | refine aw_ct rfl ?_ | refine aw_cf rfl ?_ | ((first | refine aw_reg (fun K hK => ?_) | refine aw_drw mixd (fun K hK => ?_) | refine ar_call (cgS hr 2 rfl ?_) | refine ard_call (dgS hr 2 rfl ?_) | fail); simp -implicitDefEqProofs [hkl, hy, hy', w2, b1, b2]) | refine hK _ ?_ | refine hK _ _ (by rfl) ?_ | fail)
    refine ⟨k + 1, by omega, (by dsimp only; omega), ?_⟩
    rw [hI, hs]; exact cov_intro [0, 1, 2, 49, 4, 5, 65] (by simp -implicitDefEqProofs) (by simp -implicitDefEqProofs) (by decide) rfl (by simp)
  · rw [if_neg hq] at hs
    repeat (first | refine aw_seq ?_ | refine aw_skip ?_ | refine aw_block ?_ | refine aw_exit ?_ | refine aw_ct rfl ?_ | refine aw_cf rfl ?_ | ((first | refine aw_reg (fun K hK => ?_) | refine aw_drw mixd (fun K hK => ?_) | fail); simp -implicitDefEqProofs [hkl, hy, hy', w2, hq]; first | refine hK _ ?_ | refine hK _ _ (by rfl) ?_ | fail) | fail)
    refine ⟨k + 1, by omega, (by dsimp only; omega), ?_⟩
    rw [hI, hs]; exact cov_intro [0, 1, 2, 3, 4, 5, 6] (by simp -implicitDefEqProofs) (by simp -implicitDefEqProofs) (by decide) rfl (by simp)
end Go.Proofs.Ythkfdheoakbfnaa.am
end
section
namespace Go.Proofs.Ythkfdheoakbfnaa.am
open Go.ChangeShapes Go.WideShapes Go.ChangeAt Go.RowKit
open vt
set_option linter.unusedVariables false
set_option linter.unusedSimpArgs false
theorem awk13 : resS ⟨36, 0, ⟨#[]⟩, 0, 0⟩ [.mk ⟨32, 0, ⟨#[97]⟩, 0, 0⟩ [.mk ⟨1, 0, ⟨#[]⟩, 0, 0⟩ []]] = ⟨.mk ⟨36, 0, ⟨#[]⟩, 0, 0⟩ [.mk ⟨32, 0, ⟨#[]⟩, 0, 0⟩ [.mk ⟨1, 0, ⟨#[]⟩, 0, 0⟩ []]], 0, 0⟩ := by
  have h1 : ∀ ml L, anyT ml (.mk ⟨1, 0, ⟨#[]⟩, 0, 0⟩ []) L = ⟨.mk ⟨1, 0, ⟨#[]⟩, 0, 0⟩ [], 0, 0⟩ := fun ml L => by
    rw [anyT_mk, if_neg (by decide), if_neg (by simp [wrgS]), seqT]
    simp [outS]
  simp [resS, twcS, hasS, decsS, decS, Tr.lab, anyT_mk, wrgS, seqT, h1, outS, wrpS, knwS, knxS]
set_option maxRecDepth 100000 in
set_option maxHeartbeats 4000000 in
theorem awake13_row : Row Try.prog 9 [] [] (vB true) [] := by
  have hres := sres_row ⟨36, 0, ⟨#[]⟩, 0, 0⟩ [.mk ⟨32, 0, ⟨#[97]⟩, 0, 0⟩ [.mk ⟨1, 0, ⟨#[]⟩, 0, 0⟩ []]] (by simp) (fun d hd => by
    simp at hd
    subst hd
    refine sdecl_ok _ (by simp) _ ?_ (by simp [kndD, Tr.lab]) (by simp [Tr.size_mk])
    unfold scpD
    rw [if_neg (by simp [Tr.lab]), if_neg (by simp [Tr.lab])]
    exact (scpT_mk _ _).2 ⟨fun h => by simp at h, fun h => by simp at h, fun y hy => by simp at hy; subst hy; exact (scpT_mk _ _).2 ⟨fun h => by simp at h, fun h => by simp at h, fun y hy => by simp at hy⟩⟩)
  rw [awk13] at hres
  refine row_of Try.func9 rfl rfl (Nat.le_of_ble_eq_true rfl) ?_
  repeat' (first | refine aw_seq ?_ | refine aw_skip ?_ | refine aw_block ?_ | refine aw_exit ?_ | refine aw_ct rfl ?_ | refine aw_cf rfl ?_ | ((first | refine aw_reg (fun K hK => ?_) | refine aw_drw mixd (fun K hK => ?_) | refine ar_call (cp hres ?_) | refine ard_call (dp hres ?_) | fail); simp -implicitDefEqProofs) | refine hK _ ?_ | refine hK _ _ (by rfl) ?_ | fail)
  refine aw_ret (fin_ret ?_); simp -implicitDefEqProofs [FinP, resV, resT] <;> try rfl
set_option maxRecDepth 100000 in
set_option maxHeartbeats 4000000 in
theorem law_sres_row (s : ByteArray) : Row Try.prog 3 [vS s] [] (vB true) [] := by
  have haw := awake13_row
  by_cases h3 : 2000 < s.size
  · have h3' : (2000 : Int) < s.size := by omega
    refine row_of Try.func3 rfl rfl (Nat.le_of_ble_eq_true rfl) ?_
    repeat' (first | refine aw_seq ?_ | refine aw_skip ?_ | refine aw_block ?_ | refine aw_exit ?_ | refine aw_ct rfl ?_ | refine aw_cf rfl ?_ | ((first | refine aw_reg (fun K hK => ?_) | refine aw_drw mixd (fun K hK => ?_) | refine ar_call (cp haw ?_) | refine ard_call (dp haw ?_) | fail); simp -implicitDefEqProofs [h3, h3']) | refine hK _ ?_ | refine hK _ _ (by rfl) ?_ | fail)
    refine aw_ret (fin_ret ?_); simp -implicitDefEqProofs [FinP, resV, resT] <;> try rfl
  have h3' : ¬ (2000 : Int) < s.size := by omega
  have h := ruparse_row s (by omega)
  have hz := unit_sz13 s (by omega)
  have hk := fun x l e => @unit_knd s x l e
  have hs := fun x l e => @unit_scp s x l e
  obtain ⟨⟨⟨mx, ml⟩, a, e⟩, hr⟩ : ∃ r, unitG s = r := ⟨_, rfl⟩
  rw [hr] at h hz hk hs
  dsimp only at hz hk hs
  have hk := hk mx ml rfl
  have hs := hs mx ml rfl
  clear hr
  by_cases he : e = 0; rotate_left
  · refine row_of Try.func3 rfl rfl (Nat.le_of_ble_eq_true rfl) ?_
    repeat' (first | refine aw_seq ?_ | refine aw_skip ?_ | refine aw_block ?_ | refine aw_exit ?_ | refine aw_ct rfl ?_ | refine aw_cf rfl ?_ | ((first | refine aw_reg (fun K hK => ?_) | refine aw_drw mixd (fun K hK => ?_) | refine ar_call (cp h ?_) | refine ard_call (dp h ?_) | refine ar_call (cp haw ?_) | refine ard_call (dp haw ?_) | fail); simp -implicitDefEqProofs [h3, h3', he]) | refine hK _ ?_ | refine hK _ _ (by rfl) ?_ | fail)
    refine aw_ret (fin_ret ?_); simp -implicitDefEqProofs [FinP, resV, resT] <;> try rfl
  subst he
  have hlen := Tr.len_size (x := mx) (l := ml)
  have hpart : ∀ d ∈ ml, d.size ≤ 40000 := fun d hd => by
    obtain ⟨i, hi⟩ := List.mem_iff_getElem?.1 hd
    have := Tr.size_at (x := mx) hi
    omega
  have r1 := sres_row mx ml (by omega) (fun d hd => sdecl_ok ml (by omega) d (hs d hd) (hk d hd) (hpart d hd))
  have r2 := srres_row mx ml (by omega) (fun d hd => ⟨hs d hd, hpart d hd⟩)
  have hr := res_sz mx ml hs
  obtain ⟨⟨⟨ox, ol⟩, b, f⟩, hq⟩ : ∃ r, resS mx ml = r := ⟨_, rfl⟩
  rw [hq] at r1 r2 hr
  dsimp only at r1 r2 hr
  have hp := rplac_row (.mk ox ol) (by omega) (.mk ox ol) (by omega)
  rw [plac_refl] at hp
  refine row_of Try.func3 rfl rfl (Nat.le_of_ble_eq_true rfl) ?_
  repeat' (first | refine aw_seq ?_ | refine aw_skip ?_ | refine aw_block ?_ | refine aw_exit ?_ | refine aw_ct rfl ?_ | refine aw_cf rfl ?_ | ((first | refine aw_reg (fun K hK => ?_) | refine aw_drw mixd (fun K hK => ?_) | refine ar_call (cp h ?_) | refine ard_call (dp h ?_) | refine ar_call (cp r1 ?_) | refine ard_call (dp r1 ?_) | refine ar_call (cp r2 ?_) | refine ard_call (dp r2 ?_) | refine ar_call (cp hp ?_) | refine ard_call (dp hp ?_) | refine ar_call (cp haw ?_) | refine ard_call (dp haw ?_) | fail); simp -implicitDefEqProofs [h3, h3']) | refine hK _ ?_ | refine hK _ _ (by rfl) ?_ | fail)
  refine aw_ret (fin_ret ?_); simp -implicitDefEqProofs [FinP, resV, resT] <;> try rfl
set_option maxRecDepth 100000 in
set_option maxHeartbeats 4000000 in
theorem law_skeeps_row (s : ByteArray) : Row Try.prog 5 [vS s] [] (vB true) [] := by
  have haw := awake13_row
  by_cases h3 : 1000 < s.size
  · have h3' : (1000 : Int) < s.size := by omega
    refine row_of Try.func5 rfl rfl (Nat.le_of_ble_eq_true rfl) ?_
    repeat' (first | refine aw_seq ?_ | refine aw_skip ?_ | refine aw_block ?_ | refine aw_exit ?_ | refine aw_ct rfl ?_ | refine aw_cf rfl ?_ | ((first | refine aw_reg (fun K hK => ?_) | refine aw_drw mixd (fun K hK => ?_) | refine ar_call (cp haw ?_) | refine ard_call (dp haw ?_) | fail); simp -implicitDefEqProofs [h3, h3']) | refine hK _ ?_ | refine hK _ _ (by rfl) ?_ | fail)
    refine aw_ret (fin_ret ?_); simp -implicitDefEqProofs [FinP, resV, resT] <;> try rfl
  have h3' : ¬ (1000 : Int) < s.size := by omega
  have h := ruparse_row s (by omega)
  have hz := unit_sz13 s (by omega)
  have hk := fun x l e => @unit_knd s x l e
  have hs := fun x l e => @unit_scp s x l e
  have h6 := fun x l e => @unit_36 s x l e
  obtain ⟨⟨⟨mx, ml⟩, a, e⟩, hr⟩ : ∃ r, unitG s = r := ⟨_, rfl⟩
  rw [hr] at h hz hk hs h6
  dsimp only at hz hk hs h6
  have hk := hk mx ml rfl
  have hs := hs mx ml rfl
  have h6 := h6 mx ml rfl
  clear hr
  by_cases he : e = 0; rotate_left
  · refine row_of Try.func5 rfl rfl (Nat.le_of_ble_eq_true rfl) ?_
    repeat' (first | refine aw_seq ?_ | refine aw_skip ?_ | refine aw_block ?_ | refine aw_exit ?_ | refine aw_ct rfl ?_ | refine aw_cf rfl ?_ | ((first | refine aw_reg (fun K hK => ?_) | refine aw_drw mixd (fun K hK => ?_) | refine ar_call (cp h ?_) | refine ard_call (dp h ?_) | refine ar_call (cp haw ?_) | refine ard_call (dp haw ?_) | fail); simp -implicitDefEqProofs [h3, h3', he]) | refine hK _ ?_ | refine hK _ _ (by rfl) ?_ | fail)
    refine aw_ret (fin_ret ?_); simp -implicitDefEqProofs [FinP, resV, resT] <;> try rfl
  subst he
  have h6 := h6 rfl
  have hlen := Tr.len_size (x := mx) (l := ml)
  have hpart : ∀ d ∈ ml, d.size ≤ 40000 := fun d hd => by
    obtain ⟨i, hi⟩ := List.mem_iff_getElem?.1 hd
    have := Tr.size_at (x := mx) hi
    omega
  have r1 := sres_row mx ml (by omega) (fun d hd => sdecl_ok ml (by omega) d (hs d hd) (hk d hd) (hpart d hd))
  have hr := res_sz mx ml hs
  have hkp := res_kept mx ml h6 hs
  obtain ⟨⟨⟨ox, ol⟩, b, f⟩, hq⟩ : ∃ r, resS mx ml = r := ⟨_, rfl⟩
  rw [hq] at r1 hr hkp
  dsimp only at r1 hr hkp
  by_cases hf : f = 0; rotate_left
  · refine row_of Try.func5 rfl rfl (Nat.le_of_ble_eq_true rfl) ?_
    repeat' (first | refine aw_seq ?_ | refine aw_skip ?_ | refine aw_block ?_ | refine aw_exit ?_ | refine aw_ct rfl ?_ | refine aw_cf rfl ?_ | ((first | refine aw_reg (fun K hK => ?_) | refine aw_drw mixd (fun K hK => ?_) | refine ar_call (cp h ?_) | refine ard_call (dp h ?_) | refine ar_call (cp r1 ?_) | refine ard_call (dp r1 ?_) | refine ar_call (cp haw ?_) | refine ard_call (dp haw ?_) | fail); simp -implicitDefEqProofs [h3, h3', hf]) | refine hK _ ?_ | refine hK _ _ (by rfl) ?_ | fail)
    refine aw_ret (fin_ret ?_); simp -implicitDefEqProofs [FinP, resV, resT] <;> try rfl
  have hp := rkept_row (.mk mx ml) (by omega) (.mk ox ol) (by omega)
  rw [hkp hf] at hp
  subst hf
  refine row_of Try.func5 rfl rfl (Nat.le_of_ble_eq_true rfl) ?_
  repeat' (first | refine aw_seq ?_ | refine aw_skip ?_ | refine aw_block ?_ | refine aw_exit ?_ | refine aw_ct rfl ?_ | refine aw_cf rfl ?_ | ((first | refine aw_reg (fun K hK => ?_) | refine aw_drw mixd (fun K hK => ?_) | refine ar_call (cp h ?_) | refine ard_call (dp h ?_) | refine ar_call (cp r1 ?_) | refine ard_call (dp r1 ?_) | refine ar_call (cp hp ?_) | refine ard_call (dp hp ?_) | refine ar_call (cp haw ?_) | refine ard_call (dp haw ?_) | fail); simp -implicitDefEqProofs [h3, h3']) | refine hK _ ?_ | refine hK _ _ (by rfl) ?_ | fail)
  refine aw_ret (fin_ret ?_); simp -implicitDefEqProofs [FinP, resV, resT] <;> try rfl
end Go.Proofs.Ythkfdheoakbfnaa.am
end
section
namespace Go.Proofs.Ythkfdheoakbfnaa.am
open Go.ChangeShapes Go.WideShapes Go.ChangeAt Go.RowKit
open vt
set_option linter.unusedVariables false
set_option linter.unusedSimpArgs false
set_option maxRecDepth 100000
end Go.Proofs.Ythkfdheoakbfnaa.am
end
section
namespace Go.Proofs.Ythkfdheoakbfnaa.am
open Go.ChangeShapes Go.WideShapes Go.ChangeAt Go.RowKit
open vt
set_option linter.unusedVariables false
set_option maxRecDepth 100000 in
theorem open_vstring {H : Type} {enc : TypeId × Value → H} {w : World} {r : Reach} {b0 : Nat} {v : Value} {d : DataW H} {p : List MemPlace}
    (hv : Value.okWide Try.prog w r b0 9 v) (h : DataW.Trod enc Try.prog w 0 (fun _ => true) true 9 v d p) : ∃ s : ByteArray, RepV (fun _ => .un) (oldS w) w v (vS s) ∧ s.size ≤ 9223372036854775807 := by
  obtain ⟨s, rfl, _, _, h1⟩ := Go.ChangeMaps.open_string Try.underlying9 hv h
  exact ⟨s, .lit _ rfl, by unfold maxLen at h1; omega⟩
end Go.Proofs.Ythkfdheoakbfnaa.am
end
