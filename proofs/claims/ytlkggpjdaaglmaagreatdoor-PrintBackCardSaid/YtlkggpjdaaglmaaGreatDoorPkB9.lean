import Derived.Test.YtlkggpjdaaglmaaGreatDoorPkB8
import Derived.Test.YtlkggpjdaaglmaaGreatDoorPkB7
import Derived.Lib.ItoaLen
section
namespace Go.Proofs.YtlkggpjdaaglmaaGreatDoor.am
open vt
set_option linter.unusedVariables false
theorem sm0 {x y : Lab} (hk : x.k = y.k) (hn : x.n = y.n) (hs : x.s = y.s) : Sm (.mk x []) (.mk y []) := .mk x y [] [] hk hn hs rfl (fun i a b h => by simp at h)
theorem sm1 {x y : Lab} {a b : VT} (hk : x.k = y.k) (hn : x.n = y.n) (hs : x.s = y.s) (h : Sm a b) : Sm (.mk x [a]) (.mk y [b]) := .mk x y _ _ hk hn hs rfl (fun i c d h1 h2 => by
  match i, h1, h2 with
  | 0, h1, h2 => cases h1; cases h2; exact h
  | i + 1, h1, h2 => simp at h1)
theorem sm2 {x y : Lab} {a b c d : VT} (hk : x.k = y.k) (hn : x.n = y.n) (hs : x.s = y.s) (h : Sm a b) (g : Sm c d) : Sm (.mk x [a, c]) (.mk y [b, d]) := .mk x y _ _ hk hn hs rfl (fun i p q h1 h2 => by
  match i, h1, h2 with
  | 0, h1, h2 => cases h1; cases h2; exact h
  | 1, h1, h2 => cases h1; cases h2; exact g
  | i + 2, h1, h2 => simp at h1)
theorem smLs {x y : Lab} {l m : List VT} (hk : x.k = y.k) (hn : x.n = y.n) (hs : x.s = y.s) (h : SmL l m) : Sm (.mk x l) (.mk y m) := .mk x y _ _ hk hn hs h.1 h.2
theorem preK_ge {S : List Tok} : ∀ (Ms : List (List Tok)), (∀ M ∈ Ms, M ≠ []) → Ms.length ≤ (preK S Ms).length
  | [], _ => Nat.zero_le _
  | [M], h => by
    have := List.length_pos_iff.2 (h M (.head _))
    simp [preK]; omega
  | M :: M2 :: r, h => by
    have h1 := List.length_pos_iff.2 (h M (.head _))
    have h2 := preK_ge (S := S) (M2 :: r) (fun N hN => h N (.tail _ hN))
    rw [preK_two]
    simp only [List.length_append, List.length_cons] at *
    omega
section
variable {ts : List Tok}
theorem clo_read (l : List VT) (Ms : List (List Tok)) (hl : l.length = Ms.length) (hw : ∀ (k : Nat) t M, l[k]? = some t → Ms[k]? = some M → KE t M ∧ Rds ts t M) (few : Bool) (fs ls : ByteArray) (h0 : l = [] → few = true) (hls : few = true → ls = sParS) (hF : Fol 0 (kwd ls)) (hC : isK sCom (kwd ls) = false) (hK : isK ls (kwd ls) = true) (hKf : isK fs (kwd fs) = true) {o : Nat} (h : Lk ts o ([kwd fs] ++ (preK [kwd sCom] Ms ++ [kwd ls]))) (hb : o + ([kwd fs] ++ (preK [kwd sCom] Ms ++ [kwd ls])).length ≤ ts.length) : ∃ l', SmL l' l ∧ cloG ts (Qx ts 1) o few fs ls = (l', o + ([kwd fs] ++ (preK [kwd sCom] Ms ++ [kwd ls])).length, 0) := by
  obtain ⟨k1, k2⟩ := lk_app.1 h
  obtain ⟨k2, k3⟩ := lk_app.1 k2
  simp only [List.length_append, List.length_singleton] at hb k2 k3 ⊢
  have k1 := lk_one.1 k1
  have k3 := lk_one.1 k3
  have hn : ∀ M ∈ Ms, M ≠ [] := fun M hM => by
    obtain ⟨i, hi⟩ := List.mem_iff_getElem?.1 hM
    have hlt := (List.getElem?_eq_some_iff.1 hi).1
    obtain ⟨y, r, e, _⟩ := ke_hd (hw i _ M (List.getElem?_eq_getElem (by omega)) hi).1
    rw [e]; simp
  have hge := preK_ge (S := [kwd sCom]) Ms hn
  unfold cloG
  rw [if_neg (by rw [lke_isK k1, hKf]; simp)]
  by_cases hl0 : l = []
  · subst hl0
    have hM : Ms = [] := List.length_eq_zero_iff.1 hl.symm
    subst hM
    have k3' : Lke (nxt ts (o + 1)) (kwd ls) := by simpa [preK] using k3
    rw [if_pos ⟨h0 rfl, by rw [lke_isK k3', hK]⟩]
    exact ⟨[], ⟨rfl, fun i a b h => by simp at h⟩, by simp [preK]⟩
  · have hM : Ms ≠ [] := fun e => hl0 (List.length_eq_zero_iff.1 (by rw [hl, e]; rfl))
    have hf : ¬ (few = true ∧ isK ls (nxt ts (o + 1)) = true) := by
      rintro ⟨g1, g2⟩
      obtain ⟨t, l2, rfl⟩ := List.exists_cons_of_ne_nil hl0
      obtain ⟨M, r, rfl⟩ := List.exists_cons_of_ne_nil hM
      obtain ⟨y, q, e, e1, _⟩ := ke_hd (hw 0 t M rfl rfl).1
      have hy : Lke (nxt ts (o + 1)) y := by
        have := k2 0 y (by rw [e]; unfold preK; rfl)
        simpa using this
      rw [hls g1, lke_isK hy, e1] at g2
      cases g2
    rw [if_neg hf]
    obtain ⟨l', q1, q2⟩ := lpC_read l Ms hl0 hl hw (ts.length + 1) (o + 1) [] (kwd ls) k2 (by omega) k3 hF hC (by omega)
    rw [q2, List.nil_append]
    dsimp only
    rw [if_neg (by simp), if_neg (by rw [lke_isK k3, hK]; simp)]
    exact ⟨l', q1, by rw [show o + 1 + (preK [kwd sCom] Ms).length + 1 = o + (1 + ((preK [kwd sCom] Ms).length + 1)) by omega]⟩
theorem opK_kw {n : Int} (h1 : 1 ≤ n) (h2 : n ≤ 13) : opK (kwd (opB n).1) = (n, (opB n).2.toNat) := by
  have : n = 1 ∨ n = 2 ∨ n = 3 ∨ n = 4 ∨ n = 5 ∨ n = 6 ∨ n = 7 ∨ n = 8 ∨ n = 9 ∨ n = 10 ∨ n = 11 ∨ n = 12 ∨ n = 13 := by omega
  rcases this with rfl | rfl | rfl | rfl | rfl | rfl | rfl | rfl | rfl | rfl | rfl | rfl | rfl <;> decide
theorem fol_op {n : Int} (h1 : 1 ≤ n) (h2 : n ≤ 13) {i : Nat} (h : Lke (nxt ts i) (kwd (opB n).1)) : Fol (opB n).2.toNat (nxt ts i) := by
  refine fol_lke h ⟨fun w a b => ?_, ?_, ?_, ?_⟩
  · rw [opK_kw h1 h2]; dsimp only; omega
  all_goals
    have : n = 1 ∨ n = 2 ∨ n = 3 ∨ n = 4 ∨ n = 5 ∨ n = 6 ∨ n = 7 ∨ n = 8 ∨ n = 9 ∨ n = 10 ∨ n = 11 ∨ n = 12 ∨ n = 13 := by omega
    rcases this with rfl | rfl | rfl | rfl | rfl | rfl | rfl | rfl | rfl | rfl | rfl | rfl | rfl <;> decide
theorem opB_rg {n : Int} (h1 : 1 ≤ n) (h2 : n ≤ 13) : 1 ≤ (opB n).2 ∧ (opB n).2 ≤ 5 := by
  have : n = 1 ∨ n = 2 ∨ n = 3 ∨ n = 4 ∨ n = 5 ∨ n = 6 ∨ n = 7 ∨ n = 8 ∨ n = 9 ∨ n = 10 ∨ n = 11 ∨ n = 12 ∨ n = 13 := by omega
  rcases this with rfl | rfl | rfl | rfl | rfl | rfl | rfl | rfl | rfl | rfl | rfl | rfl | rfl <;> decide
theorem tgh7 {x : Lab} (h1 : x.k ≠ 10) (h2 : x.k ≠ 11) : (tgh x).toNat = 7 := by unfold tgh; rw [if_neg h1, if_neg h2]; rfl
theorem tgh6 {x : Lab} (h2 : x.k = 11) : (tgh x).toNat = 6 := by unfold tgh; rw [if_neg (by omega), if_pos h2]; rfl
theorem labx {x : Lab} {l : List VT} : (Tr.mk x l).lab = x := rfl
set_option maxHeartbeats 2000000 in
theorem ke_read {t : VT} {M : List Tok} (h : KE t M) : Rds ts t M := by
  have fol5P : ∀ {z : Tok}, Fol 5 z ∨ isK sOpen z = true ∨ isK sDot z = true → isK sParO z = false := fun {z} h => by
    rcases h with h | h | h
    · exact h.noP
    · unfold isK at h ⊢
      simp only [Bool.and_eq_true, decide_eq_true_eq] at h
      rw [h.2, decide_eq_false (show ¬ sOpen = sParO by decide), Bool.and_false]
    · unfold isK at h ⊢
      simp only [Bool.and_eq_true, decide_eq_true_eq] at h
      rw [h.2, decide_eq_false (show ¬ sDot = sParO by decide), Bool.and_false]
  induction h with
  | num x h hs h0 h1 =>
    intro i hk hb
    have hk := lk_one.1 hk
    simp only [List.length_singleton] at hb ⊢
    rw [labx, tgh7 (by omega) (by omega)]
    refine ⟨_, ?_, q7 (t := .mk ⟨5, (nxt ts i).n, ⟨#[]⟩, frT ts i, toT ts (i + 1 - 1)⟩ []) ?_ (by omega) hb (unN_zero (by rw [lke_isK hk]; exact isK_nb _ _) (by rw [lke_isK hk]; exact isK_nb _ _))⟩
    · exact sm0 h.symm hk.n hs.symm
    · rw [q8 (by omega)]
      unfold atoG
      rw [if_pos (show (nxt ts i).k = 2 from hk.k)]; rfl
  | tru x h hn hs =>
    intro i hk hb
    have hk := lk_one.1 hk
    simp only [List.length_singleton] at hb ⊢
    rw [labx, tgh7 (by omega) (by omega)]
    refine ⟨_, ?_, q7 (t := .mk ⟨6, 1, ⟨#[]⟩, frT ts i, toT ts (i + 1 - 1)⟩ []) ?_ (by omega) hb (unN_zero (by rw [lke_isK hk]; decide) (by rw [lke_isK hk]; decide))⟩
    · exact sm0 h.symm hn.symm hs.symm
    · rw [q8 (by omega)]
      unfold atoG
      rw [if_neg (by rw [hk.k]; decide), if_pos (by rw [lke_isK hk]; decide)]; rfl
  | fls x h hn hs =>
    intro i hk hb
    have hk := lk_one.1 hk
    simp only [List.length_singleton] at hb ⊢
    rw [labx, tgh7 (by omega) (by omega)]
    refine ⟨_, ?_, q7 (t := .mk ⟨6, 0, ⟨#[]⟩, frT ts i, toT ts (i + 1 - 1)⟩ []) ?_ (by omega) hb (unN_zero (by rw [lke_isK hk]; decide) (by rw [lke_isK hk]; decide))⟩
    · exact sm0 h.symm hn.symm hs.symm
    · rw [q8 (by omega)]
      unfold atoG
      rw [if_neg (by rw [hk.k]; decide), if_neg (by rw [lke_isK hk]; decide), if_pos (by rw [lke_isK hk]; decide)]; rfl
  | read x h hn hs =>
    intro i hk hb
    have hk := lk_one.1 hk
    simp only [List.length_singleton] at hb ⊢
    rw [labx, tgh7 (by omega) (by omega)]
    refine ⟨_, ?_, q7 (t := .mk ⟨18, 0, ⟨#[]⟩, frT ts i, toT ts (i + 1 - 1)⟩ []) ?_ (by omega) hb (unN_zero (by rw [lke_isK hk]; decide) (by rw [lke_isK hk]; decide))⟩
    · exact sm0 h.symm hn.symm hs.symm
    · rw [q8 (by omega)]
      unfold atoG
      rw [if_neg (by rw [hk.k]; decide), if_neg (by rw [lke_isK hk]; decide), if_neg (by rw [lke_isK hk]; decide), if_pos (by rw [lke_isK hk]; decide)]; rfl
  | nam x h hn =>
    intro i hk hb
    have hk := lk_one.1 hk
    simp only [List.length_singleton] at hb ⊢
    rw [labx, tgh7 (by omega) (by omega)]
    refine ⟨.mk ⟨19, 0, (nxt ts i).s, frT ts i, toT ts (i + 1 - 1)⟩ [], sm0 h.symm hn.symm hk.s, by omega, hb, fun _ hz => ⟨unN_zero (by rw [lke_isK hk]; exact isK_nm _ _) (by rw [lke_isK hk]; exact isK_nm _ _), ts.length + 1, by omega, ?_⟩, fun e => by omega, fun _ e => by omega⟩
    rw [Q_eq 7 i (by decide) (by decide) (by omega)]
    unfold bG
    rw [if_neg (by decide), if_neg (by decide), if_pos rfl, q8 (by omega)]
    unfold atoG
    rw [if_neg (by rw [hk.k]; show ¬ (1 : Int) = 2; decide), if_neg (by rw [lke_isK hk, isK_nm]; simp), if_neg (by rw [lke_isK hk, isK_nm]; simp), if_neg (by rw [lke_isK hk, isK_nm]; simp), if_pos ⟨hk.k, fol5P hz⟩]
    rfl
  | bin x a c al cl A C h hs h1 h2 ha hc ia ic =>
    intro i hk hb
    have hbr := opB_rg h1 h2
    obtain ⟨k1, k2⟩ := lk_app.1 hk
    obtain ⟨k2, k3⟩ := lk_app.1 k2
    have k2 := lk_one.1 k2
    have pa := @parK_len (tgh a) A (if (opB x.n).2 = 3 then 4 else (opB x.n).2)
    obtain ⟨y, r, eA, _⟩ := ke_hd ha
    have hA : 1 ≤ A.length := by rw [eA]; simp
    simp only [List.length_append, List.length_singleton] at hb k3 ⊢
    obtain ⟨a', w1, s1, n1, u1, v1, r1⟩ := par_read ha ia (by split <;> omega) (by split <;> omega) k1 (by omega)
    obtain ⟨c', w2, s2, n2, u2, v2, r2⟩ := par_read hc ic (by omega) (by omega) k3 (by omega)
    have tb : tgh x = (opB x.n).2 := by unfold tgh; rw [if_pos h]
    rw [labx, tb]
    have hfo := fol_op h1 h2 k2
    obtain ⟨m, f, m1, m2, m3⟩ := red_low r1 u1 6 (opB x.n).2.toNat (by omega) (by omega) (by omega) (by split at n1 <;> omega) hfo
    generalize hPA : (parK (tgh a) A (if (opB x.n).2 = 3 then 4 else (opB x.n).2)).length = PA at *
    generalize hPC : (parK (tgh c) C ((opB x.n).2 + 1)).length = PC at *
    have hN : i + (PA + (1 + PC)) = i + PA + 1 + PC := by omega
    rw [hN]
    refine ⟨.mk ⟨10, x.n, ⟨#[]⟩, frT ts i, toT ts (i + PA + 1 + PC - 1)⟩ [a', c'], sm2 h.symm rfl hs.symm s1 s2, by omega, by omega, fun e => by omega, fun e => by omega, fun _ _ hz => ?_⟩
    have hfin : Qx ts ((opB x.n).2.toNat + 1) (i + PA + 1) = (c', i + PA + 1 + PC, 0) := red_fin r2 u2 (by omega) (by omega) (by omega) (by rw [Nat.add_sub_cancel]; exact hz)
    obtain ⟨m, rfl⟩ : ∃ q, m = q + 1 := ⟨m - 1, by have := r1.1; have := r1.2.1; omega⟩
    refine ⟨m, true, by omega, ?_⟩
    rw [m3, lpL, if_neg (by simp)]
    dsimp only
    have ho : opK (nxt ts (i + PA)) = (x.n, (opB x.n).2.toNat) := by rw [lke_opK k2, opK_kw h1 h2]
    rw [ho, hfin]
    dsimp only
    have hcond : ¬ ((opB x.n).2.toNat ≠ (opB x.n).2.toNat ∨ ((opB x.n).2.toNat = 3 ∧ f = true)) := by
      rintro (g | ⟨g1, g2⟩)
      · exact g rfl
      · have := m2 g2
        have h3 : (opB x.n).2 = 3 := by omega
        rw [if_pos h3] at n1
        omega
    rw [if_neg hcond, if_neg (by simp)]
    rfl
  | neg x a al A h hn hs ha ia =>
    intro i hk hb
    obtain ⟨k1, k2⟩ := lk_app.1 hk
    have k1 := lk_one.1 k1
    simp only [List.length_append, List.length_singleton] at hb k2 ⊢
    obtain ⟨a', w1, s1, n1, u1, v1, r1⟩ := par_read ha ia (by decide) (by decide) k2 (by omega)
    rw [labx, tgh6 h]
    generalize hPA : (parK (tgh a) A 6).length = PA at *
    rw [show i + (1 + PA) = i + 1 + PA by omega] at hb ⊢
    have g1 := r1.1
    refine ⟨.mk ⟨11, 1, ⟨#[]⟩, frT ts i, toT ts (i + 1 + PA - 1)⟩ [a'], sm1 h.symm hn.symm hs.symm s1, by omega, by omega, fun e => by omega, fun _ hz => ?_, fun _ e => by omega⟩
    have hfin : Qx ts 6 (i + 1) = (a', i + 1 + PA, 0) := red_fin r1 u1 (by decide) (by omega) (by decide) hz
    have hu : unN ts i = 1 := by unfold unN; rw [if_neg (by rw [lke_isK k1]; decide), if_pos (by rw [lke_isK k1]; decide)]
    rw [Q_eq 6 i (by decide) (by decide) (by omega)]
    unfold bG
    rw [if_neg (by decide), if_pos rfl, if_neg (by rw [hu]; decide), hfin, if_neg (by simp), hu]
    rfl
  | nt x a al A h hn hs ha ia =>
    intro i hk hb
    obtain ⟨k1, k2⟩ := lk_app.1 hk
    have k1 := lk_one.1 k1
    simp only [List.length_append, List.length_singleton] at hb k2 ⊢
    obtain ⟨a', w1, s1, n1, u1, v1, r1⟩ := par_read ha ia (by decide) (by decide) k2 (by omega)
    rw [labx, tgh6 h]
    generalize hPA : (parK (tgh a) A 6).length = PA at *
    rw [show i + (1 + PA) = i + 1 + PA by omega] at hb ⊢
    have g1 := r1.1
    refine ⟨.mk ⟨11, 2, ⟨#[]⟩, frT ts i, toT ts (i + 1 + PA - 1)⟩ [a'], sm1 h.symm hn.symm hs.symm s1, by omega, by omega, fun e => by omega, fun _ hz => ?_, fun _ e => by omega⟩
    have hfin : Qx ts 6 (i + 1) = (a', i + 1 + PA, 0) := red_fin r1 u1 (by decide) (by omega) (by decide) hz
    have hu : unN ts i = 2 := by unfold unN; rw [if_pos (by rw [lke_isK k1]; decide)]
    rw [Q_eq 6 i (by decide) (by decide) (by omega)]
    unfold bG
    rw [if_neg (by decide), if_pos rfl, if_neg (by rw [hu]; decide), hfin, if_neg (by simp), hu]
    rfl
  | idx x a c al cl A C h hn hs ha hc ia ic =>
    intro i hk hb
    obtain ⟨k1, k2⟩ := lk_app.1 hk
    obtain ⟨k2, k3⟩ := lk_app.1 k2
    obtain ⟨k3, k4⟩ := lk_app.1 k3
    have k2 := lk_one.1 k2
    have k4 := lk_one.1 k4
    simp only [List.length_append, List.length_singleton] at hb k3 k4 ⊢
    obtain ⟨a', w1, s1, n1, u1, v1, r1⟩ := par_read ha ia (by decide) (by decide) k1 (by omega)
    have hw1 : w1 = 7 := by omega
    obtain ⟨c', s2, r2⟩ := ic _ k3 (by omega)
    have tc := ke_tgh hc
    rw [labx] at tc r2
    rw [labx, tgh7 (by omega) (by omega)]
    generalize hPA : (parK (tgh a) A 7).length = PA at *
    have hN : i + (PA + (1 + (C.length + 1))) = i + PA + 1 + C.length + 1 := by omega
    rw [hN] at hb ⊢
    have g1 := r1.1
    have hfin : Qx ts 1 (i + PA + 1) = (c', i + PA + 1 + C.length, 0) := red_fin r2 (by omega) (by decide) (by omega) (by decide) (fol_H k4)
    obtain ⟨hu, m, m1, m2⟩ := r1.2.2.1 hw1 (.inr (.inl (by rw [lke_isK k2]; decide)))
    obtain ⟨m, rfl⟩ : ∃ q, m = q + 1 := ⟨m - 1, by omega⟩
    refine ⟨.mk ⟨12, 0, ⟨#[]⟩, frT ts i, toT ts (i + PA + 1 + C.length + 1 - 1)⟩ [a', c'], sm2 h.symm hn.symm hs.symm s1 s2, by omega, by omega, fun _ _ => ⟨hu, m, by omega, ?_⟩, fun e => by omega, fun _ e => by omega⟩
    rw [m2, lpP, if_neg (by simp)]
    dsimp only
    rw [if_pos (by rw [lke_isK k2]; decide), hfin]
    dsimp only
    rw [if_neg (by simp), if_neg (by rw [lke_isK k4]; decide)]
    rfl
  | fld x a al A h hn ha ia =>
    intro i hk hb
    obtain ⟨k1, k2⟩ := lk_app.1 hk
    obtain ⟨k2, k3⟩ := lk_app.1 k2
    have k2 := lk_one.1 k2
    have k3 := lk_one.1 k3
    simp only [List.length_append, List.length_singleton] at hb k3 ⊢
    obtain ⟨a', w1, s1, n1, u1, v1, r1⟩ := par_read ha ia (by decide) (by decide) k1 (by omega)
    have hw1 : w1 = 7 := by omega
    rw [labx, tgh7 (by omega) (by omega)]
    generalize hPA : (parK (tgh a) A 7).length = PA at *
    have hN : i + (PA + (1 + 1)) = i + PA + 2 := by omega
    rw [hN] at hb ⊢
    have g1 := r1.1
    obtain ⟨hu, m, m1, m2⟩ := r1.2.2.1 hw1 (.inr (.inr (by rw [lke_isK k2]; decide)))
    obtain ⟨m, rfl⟩ : ∃ q, m = q + 1 := ⟨m - 1, by omega⟩
    refine ⟨.mk ⟨13, 0, (nxt ts (i + PA + 1)).s, frT ts i, toT ts (i + PA + 2 - 1)⟩ [a'], sm1 h.symm hn.symm k3.s s1, by omega, by omega, fun _ _ => ⟨hu, m, by omega, ?_⟩, fun e => by omega, fun _ e => by omega⟩
    rw [m2, lpP, if_neg (by simp)]
    dsimp only
    rw [if_neg (by rw [lke_isK k2]; decide), if_pos (by rw [lke_isK k2]; decide), if_neg (by rw [k3.k]; show ¬ (1 : Int) ≠ 1; decide)]
    rfl
  | lst x l Ms h hn hs h0 hl hw ih =>
    intro i hk hb
    obtain ⟨l', q1, q2⟩ := clo_read l Ms hl (fun k t M a b => ⟨hw k t M a b, ih k t M a b⟩) false sOpen sShut (fun e => absurd e h0) (fun e => by cases e) (fol_kwd (by decide) (by decide) (by decide) (by decide)) (by decide) (by decide) (by decide) hk hb
    obtain ⟨k1, _⟩ := lk_app.1 hk
    have k1 := lk_one.1 k1
    have hpos : 1 ≤ ([kwd sOpen] ++ (preK [kwd sCom] Ms ++ [kwd sShut])).length := by simp
    generalize ([kwd sOpen] ++ (preK [kwd sCom] Ms ++ [kwd sShut])).length = Z at *
    rw [labx, tgh7 (by omega) (by omega)]
    refine ⟨.mk ⟨14, 0, ⟨#[]⟩, frT ts i, toT ts (i + Z - 1)⟩ l', smLs h.symm hn.symm hs.symm q1, q7 ?_ (by omega) hb (unN_zero (by rw [lke_isK k1]; decide) (by rw [lke_isK k1]; decide))⟩
    rw [q8 (by omega)]
    unfold atoG calG
    rw [if_neg (by rw [k1.k]; decide), if_neg (by rw [lke_isK k1]; decide), if_neg (by rw [lke_isK k1]; decide), if_neg (by rw [lke_isK k1]; decide), if_neg (fun g => absurd (k1.k.symm.trans g.1) (by decide)), if_neg (by rw [lke_isK k1]; decide), if_neg (by rw [k1.k]; decide), if_pos (by rw [lke_isK k1]; decide), q2]
    unfold finC
    rw [if_neg (by simp)]
    rfl
  | mak x l Ms h hn h0 hl hw ih =>
    intro i hk hb
    obtain ⟨k1, k2⟩ := lk_app.1 hk
    obtain ⟨k2, k3⟩ := lk_app.1 k2
    have k1 := lk_one.1 k1
    have k2 := lk_one.1 k2
    rw [List.length_append, List.length_append] at hb ⊢
    simp only [List.length_singleton] at hb k2 k3 ⊢
    obtain ⟨l', q1, q2⟩ := clo_read l Ms hl (fun k t M a b => ⟨hw k t M a b, ih k t M a b⟩) false sParO sParS (fun e => absurd e h0) (fun e => by cases e) (fol_kwd (by decide) (by decide) (by decide) (by decide)) (by decide) (by decide) (by decide) k3 (by omega)
    generalize ([kwd sParO] ++ (preK [kwd sCom] Ms ++ [kwd sParS])).length = Z at *
    rw [labx, tgh7 (by omega) (by omega)]
    rw [show i + (1 + (1 + Z)) = i + 1 + 1 + Z by omega] at hb ⊢
    refine ⟨.mk ⟨15, 0, (nxt ts (i + 1)).s, frT ts i, toT ts (i + 1 + 1 + Z - 1)⟩ l', smLs h.symm hn.symm k2.s q1, q7 ?_ (by omega) hb (unN_zero (by rw [lke_isK k1]; decide) (by rw [lke_isK k1]; decide))⟩
    rw [q8 (by omega)]
    unfold atoG calG
    rw [if_neg (by rw [k1.k]; decide), if_neg (by rw [lke_isK k1]; decide), if_neg (by rw [lke_isK k1]; decide), if_neg (by rw [lke_isK k1]; decide), if_neg (fun g => absurd (k1.k.symm.trans g.1) (by decide)), if_neg (by rw [lke_isK k1]; decide), if_neg (by rw [k1.k]; decide), if_neg (by rw [lke_isK k1]; decide), if_neg (by rw [lke_isK k1]; decide), if_pos (by rw [lke_isK k1]; decide), if_neg (by rw [k2.k]; show ¬ (1 : Int) ≠ 1; decide), q2]
    unfold finC
    rw [if_neg (by simp)]
    rfl
  | cal x l Ms h hn hl hw ih =>
    intro i hk hb
    obtain ⟨k1, k2⟩ := lk_app.1 hk
    have k1 := lk_one.1 k1
    have kp := lk_one.1 (lk_app.1 k2).1
    rw [List.length_append] at hb ⊢
    simp only [List.length_singleton] at hb k2 kp ⊢
    obtain ⟨l', q1, q2⟩ := clo_read l Ms hl (fun k t M a b => ⟨hw k t M a b, ih k t M a b⟩) true sParO sParS (fun e => rfl) (fun e => rfl) (fol_kwd (by decide) (by decide) (by decide) (by decide)) (by decide) (by decide) (by decide) k2 (by omega)
    generalize ([kwd sParO] ++ (preK [kwd sCom] Ms ++ [kwd sParS])).length = Z at *
    rw [labx, tgh7 (by omega) (by omega)]
    rw [show i + (1 + Z) = i + 1 + Z by omega] at hb ⊢
    refine ⟨.mk ⟨16, 0, (nxt ts i).s, frT ts i, toT ts (i + 1 + Z - 1)⟩ l', smLs h.symm hn.symm k1.s q1, q7 ?_ (by omega) hb (unN_zero (by rw [lke_isK k1]; exact isK_nm _ _) (by rw [lke_isK k1]; exact isK_nm _ _))⟩
    rw [q8 (by omega)]
    unfold atoG calG
    rw [if_neg (by rw [k1.k]; show ¬ (1 : Int) = 2; decide), if_neg (by rw [lke_isK k1, isK_nm]; simp), if_neg (by rw [lke_isK k1, isK_nm]; simp), if_neg (by rw [lke_isK k1, isK_nm]; simp), if_neg (fun g => by rw [lke_isK kp] at g; exact absurd g.2 (by decide)), if_neg (by rw [lke_isK k1, isK_nm]; simp), if_pos (by rw [k1.k]; rfl), q2]
    unfold finC
    rw [if_neg (by simp)]
    rfl
  | ext x l Ms h hn hl hw ih =>
    intro i hk hb
    obtain ⟨k1, k2⟩ := lk_app.1 hk
    obtain ⟨k2, k3⟩ := lk_app.1 k2
    have k1 := lk_one.1 k1
    have k2 := lk_one.1 k2
    rw [List.length_append, List.length_append] at hb ⊢
    simp only [List.length_singleton] at hb k2 k3 ⊢
    obtain ⟨l', q1, q2⟩ := clo_read l Ms hl (fun k t M a b => ⟨hw k t M a b, ih k t M a b⟩) true sParO sParS (fun e => rfl) (fun e => rfl) (fol_kwd (by decide) (by decide) (by decide) (by decide)) (by decide) (by decide) (by decide) k3 (by omega)
    generalize ([kwd sParO] ++ (preK [kwd sCom] Ms ++ [kwd sParS])).length = Z at *
    rw [labx, tgh7 (by omega) (by omega)]
    rw [show i + (1 + (1 + Z)) = i + 1 + 1 + Z by omega] at hb ⊢
    refine ⟨.mk ⟨17, 0, (nxt ts (i + 1)).s, frT ts i, toT ts (i + 1 + 1 + Z - 1)⟩ l', smLs h.symm hn.symm k2.s q1, q7 ?_ (by omega) hb (unN_zero (by rw [lke_isK k1]; decide) (by rw [lke_isK k1]; decide))⟩
    rw [q8 (by omega)]
    unfold atoG calG
    rw [if_neg (by rw [k1.k]; decide), if_neg (by rw [lke_isK k1]; decide), if_neg (by rw [lke_isK k1]; decide), if_neg (by rw [lke_isK k1]; decide), if_neg (fun g => absurd (k1.k.symm.trans g.1) (by decide)), if_neg (by rw [lke_isK k1]; decide), if_neg (by rw [k1.k]; decide), if_neg (by rw [lke_isK k1]; decide), if_pos (by rw [lke_isK k1]; decide), if_neg (by rw [k2.k]; show ¬ (1 : Int) ≠ 1; decide), q2]
    unfold finC
    rw [if_neg (by simp)]
    rfl
end
end Go.Proofs.YtlkggpjdaaglmaaGreatDoor.am
end
section
namespace Go.Proofs.YtlkggpjdaaglmaaGreatDoor.am
open vt
set_option linter.unusedVariables false
section
variable {ts : List Tok}
theorem opK_rng {x : Tok} (h : (opK x).2 ≤ 5) : 1 ≤ (opK x).1 ∧ (opK x).1 ≤ 13 := by
  obtain ⟨k, n, s, f, t⟩ := x
  unfold opK at h ⊢
  by_cases c : k = 4
  · rw [if_pos c] at h ⊢
    dsimp only at h ⊢
    clear c
    by_cases e0 : s = (⟨#[124, 124]⟩ : ByteArray)
    · subst e0; exact ⟨by decide, by decide⟩
    by_cases e1 : s = (⟨#[38, 38]⟩ : ByteArray)
    · subst e1; exact ⟨by decide, by decide⟩
    by_cases e2 : s = (⟨#[61, 61]⟩ : ByteArray)
    · subst e2; exact ⟨by decide, by decide⟩
    by_cases e3 : s = (⟨#[33, 61]⟩ : ByteArray)
    · subst e3; exact ⟨by decide, by decide⟩
    by_cases e4 : s = (⟨#[60]⟩ : ByteArray)
    · subst e4; exact ⟨by decide, by decide⟩
    by_cases e5 : s = (⟨#[60, 61]⟩ : ByteArray)
    · subst e5; exact ⟨by decide, by decide⟩
    by_cases e6 : s = (⟨#[62]⟩ : ByteArray)
    · subst e6; exact ⟨by decide, by decide⟩
    by_cases e7 : s = (⟨#[62, 61]⟩ : ByteArray)
    · subst e7; exact ⟨by decide, by decide⟩
    by_cases e8 : s = (⟨#[43]⟩ : ByteArray)
    · subst e8; exact ⟨by decide, by decide⟩
    by_cases e9 : s = (⟨#[45]⟩ : ByteArray)
    · subst e9; exact ⟨by decide, by decide⟩
    by_cases e10 : s = (⟨#[42]⟩ : ByteArray)
    · subst e10; exact ⟨by decide, by decide⟩
    by_cases e11 : s = (⟨#[47]⟩ : ByteArray)
    · subst e11; exact ⟨by decide, by decide⟩
    by_cases e12 : s = (⟨#[37]⟩ : ByteArray)
    · subst e12; exact ⟨by decide, by decide⟩
    simp [opS, e0, e1, e2, e3, e4, e5, e6, e7, e8, e9, e10, e11, e12] at h
  · rw [if_neg c] at h; exact absurd h (by decide)
theorem lpC_all {E : Nat → Got} {Q : VT → Prop} (hE : ∀ i, (E i).2.2 = 0 → Q (E i).1) : ∀ (m i : Nat) (acc : List VT), (∀ d ∈ acc, Q d) → (lpC ts E m i acc).2.2 = 0 → ∀ d ∈ (lpC ts E m i acc).1, Q d
  | 0, i, acc, ha, h => by simp [lpC] at h
  | m + 1, i, acc, ha, h => by
    have app : (E i).2.2 = 0 → ∀ d ∈ acc ++ [(E i).1], Q d := fun c d hd => by
      rcases List.mem_append.1 hd with hd | hd
      · exact ha d hd
      · rw [List.mem_singleton.1 hd]; exact hE i c
    unfold lpC at h ⊢
    split
    · rename_i c; rw [if_pos c] at h; exact absurd h c
    rename_i c; rw [if_neg c] at h
    have c : (E i).2.2 = 0 := by simpa using c
    split
    · exact app c
    · rename_i c2; rw [if_neg c2] at h
      exact lpC_all hE m _ _ (app c) h
theorem cloG_all {E : Nat → Got} {Q : VT → Prop} (hE : ∀ i, (E i).2.2 = 0 → Q (E i).1) {o : Nat} {few : Bool} {fs ls : ByteArray} (h : (cloG ts E o few fs ls).2.2 = 0) : ∀ d ∈ (cloG ts E o few fs ls).1, Q d := by
  unfold cloG at h ⊢
  split
  · intro d hd; cases hd
  rename_i c; rw [if_neg c] at h
  split
  · intro d hd; cases hd
  rename_i c2; rw [if_neg c2] at h
  split
  · rename_i c3; rw [if_pos c3] at h; exact absurd h c3
  rename_i c3; rw [if_neg c3] at h
  have c3 : (lpC ts E (ts.length + 1) (o + 1) []).2.2 = 0 := by simpa using c3
  split
  · rename_i c4; rw [if_pos c4] at h; exact absurd (show (6 : Int) = 0 from h) (by decide)
  · exact lpC_all hE _ _ _ (fun d hd => by cases hd) c3
end
end Go.Proofs.YtlkggpjdaaglmaaGreatDoor.am
end
section
namespace Go.Proofs.YtlkggpjdaaglmaaGreatDoor.lx
open Go.ChangeShapes Go.WideShapes Go.ChangeAt Go.RowKit
open bs
set_option linter.unusedVariables false
def Was (x : Tk) : Prop := ∃ (s : ByteArray) (i : Nat), s.size ≤ 8192 ∧ i < s.size ∧ on s i = (x, 0)
def bl : ByteArray := ⟨#[32]⟩
noncomputable def jn (M : List Tk) : Nat → ByteArray
  | 0 => ⟨#[]⟩
  | k + 1 => (if k = 0 then jn M k else jn M k ++ bl) ++ (match M[k]? with | some x => spell x | none => ⟨#[]⟩)
theorem jn_at {M : List Tk} {k : Nat} {x : Tk} (h : M[k]? = some x) : jn M (k + 1) = (if k = 0 then jn M k else jn M k ++ bl) ++ spell x := by
  show _ ++ (match M[k]? with | some x => spell x | none => ⟨#[]⟩) = _
  rw [h]
theorem txt_app (a b : ByteArray) : txt (a ++ b) = txt a ++ txt b := by
  unfold txt
  rw [ByteArray.data_append, Array.toList_append, List.map_append]
theorem size_app (a b : ByteArray) : (a ++ b).size = a.size + b.size := ByteArray.size_append
theorem b_left {a b : ByteArray} {i : Nat} (h : i < a.size) : B (a ++ b) i = B a i := by
  unfold B
  rw [txt_app, List.getD_eq_getElem?_getD, List.getD_eq_getElem?_getD, List.getElem?_append_left (by rw [txt_len]; exact h)]
theorem b_right {a b : ByteArray} {i : Nat} : B (a ++ b) (a.size + i) = B b i := by
  unfold B
  rw [txt_app, List.getD_eq_getElem?_getD, List.getD_eq_getElem?_getD, List.getElem?_append_right (by rw [txt_len]; omega), txt_len, show a.size + i - a.size = i by omega]
theorem app_nil' (a : ByteArray) : (⟨#[]⟩ : ByteArray) ++ a = a := by
  apply txt_inj
  rw [txt_app]
  rfl
noncomputable def hd (M : List Tk) (k : Nat) : ByteArray := if k = 0 then jn M k else jn M k ++ bl
theorem hd_size (M : List Tk) (k : Nat) : (hd M k).size = (jn M k).size + (if k = 0 then 0 else 1) := by
  unfold hd
  split
  · rfl
  · rw [size_app]; rfl
theorem jn_hd {M : List Tk} {k : Nat} {x : Tk} (h : M[k]? = some x) : jn M (k + 1) = hd M k ++ spell x := jn_at h
theorem jn_pre (M : List Tk) : ∀ (n k : Nat), k ≤ n → ∃ t, jn M n = jn M k ++ t := by
  intro n
  induction n with
  | zero => intro k h; exact ⟨⟨#[]⟩, by rw [show k = 0 by omega]; rfl⟩
  | succ n ih =>
    intro k h
    rcases Nat.eq_or_lt_of_le h with rfl | h
    · exact ⟨⟨#[]⟩, by apply txt_inj; rw [txt_app]; simp [txt]⟩
    · obtain ⟨t, ht⟩ := ih k (by omega)
      refine ⟨(if n = 0 then t else t ++ bl) ++ (match M[n]? with | some x => spell x | none => ⟨#[]⟩), ?_⟩
      show (if n = 0 then jn M n else jn M n ++ bl) ++ (match M[n]? with | some x => spell x | none => ⟨#[]⟩) = _
      apply txt_inj
      rw [txt_app, txt_app, txt_app]
      split
      · rw [ht, txt_app, List.append_assoc]
      · rw [ht, txt_app, txt_app, txt_app]
        simp only [List.append_assoc]
theorem jn_len_le (M : List Tk) {n k : Nat} (h : k ≤ n) : (jn M k).size ≤ (jn M n).size := by
  obtain ⟨t, ht⟩ := jn_pre M n k h
  rw [ht, size_app]
  omega
theorem jn_byte (M : List Tk) {n k : Nat} (h : k ≤ n) {i : Nat} (hi : i < (jn M k).size) : B (jn M n) i = B (jn M k) i := by
  obtain ⟨t, ht⟩ := jn_pre M n k h
  rw [ht, b_left hi]
theorem jn_on {M : List Tk} {k : Nat} {x : Tk} (hk : M[k]? = some x) (hw : Was x) : nx (jn M M.length) (jn M k).size = (hd M k).size ∧ (hd M k).size < (jn M M.length).size ∧
    on (jn M M.length) (hd M k).size = (⟨x.k, x.n, x.s, ((hd M k).size : Nat), ((jn M (k + 1)).size : Nat)⟩, 0) := by
  obtain ⟨s, i, _, hi, ho⟩ := hw
  have hkl := (List.getElem?_eq_some_iff.1 hk).1
  have e1 : (jn M (k + 1)).size = (hd M k).size + (spell x).size := by rw [jn_hd hk, size_app]
  have hle := jn_len_le M (show k + 1 ≤ M.length by omega)
  have hsub : (jn M M.length).extract (hd M k).size ((hd M k).size + (spell x).size) = spell x := by
    apply txt_inj
    apply List.ext_getElem?
    intro q
    rw [txt_cut, show (hd M k).size + (spell x).size - (hd M k).size = (spell x).size by omega, List.getElem?_take, List.getElem?_drop]
    by_cases hq : q < (spell x).size
    · rw [if_pos hq]
      have h1 : (hd M k).size + q < (txt (jn M M.length)).length := by rw [txt_len]; omega
      have h2 : q < (txt (spell x)).length := by rw [txt_len]; exact hq
      have h3 : B (jn M M.length) ((hd M k).size + q) = B (spell x) q := by
        rw [jn_byte M (show k + 1 ≤ M.length by omega) (by omega), jn_hd hk, b_right]
      unfold B at h3
      rw [List.getD_eq_getElem?_getD, List.getD_eq_getElem?_getD, List.getElem?_eq_getElem h1, List.getElem?_eq_getElem h2] at h3
      rw [List.getElem?_eq_getElem h1, List.getElem?_eq_getElem h2]
      exact congrArg some h3
    · rw [if_neg hq, List.getElem?_eq_none (by rw [txt_len]; omega)]
  have hstop : (hd M k).size + (spell x).size = (jn M M.length).size ∨ B (jn M M.length) ((hd M k).size + (spell x).size) = 32 := by
    by_cases hl : k + 1 = M.length
    · left; rw [← e1, hl]
    · right
      obtain ⟨y, hy⟩ : ∃ y, M[k + 1]? = some y := ⟨_, List.getElem?_eq_getElem (by omega)⟩
      have e2 : jn M (k + 1 + 1) = (jn M (k + 1) ++ bl) ++ spell y := by
        rw [jn_at hy, if_neg (by omega)]
      have h4 := jn_len_le M (show k + 1 + 1 ≤ M.length by omega)
      have h5 : (jn M (k + 1 + 1)).size = (jn M (k + 1)).size + 1 + (spell y).size := by rw [e2, size_app, size_app]; rfl
      rw [← e1, jn_byte M (show k + 1 + 1 ≤ M.length by omega) (by omega), e2, b_left (by rw [size_app]; show _ < _ + 1; omega)]
      have this : B (jn M (k + 1) ++ bl) (jn M (k + 1)).size = B bl 0 := b_right (a := jn M (k + 1)) (b := bl) (i := 0)
      rw [this]
      decide
  obtain ⟨h1, h2, h3, h4⟩ := on_like hi ho (out := jn M M.length) (p := (hd M k).size) (by omega) hsub hstop
  have hlt : (hd M k).size < (jn M M.length).size := by omega
  refine ⟨?_, hlt, by rw [h1, e1]⟩
  have hst : nx (jn M M.length) (hd M k).size = (hd M k).size := nx_stop h2 h3
  by_cases h0 : k = 0
  · have e3 : (hd M k).size = (jn M k).size := by rw [hd_size, if_pos h0]; rfl
    rw [← e3]
    exact hst
  · have e3 : (hd M k).size = (jn M k).size + 1 := by rw [hd_size, if_neg h0]
    have hb : B (jn M M.length) (jn M k).size = 32 := by
      rw [jn_byte M (show k + 1 ≤ M.length by omega) (by omega), jn_hd hk, b_left (by omega)]
      unfold hd
      rw [if_neg h0]
      have this : B (jn M k ++ bl) (jn M k).size = B bl 0 := b_right (a := jn M k) (b := bl) (i := 0)
      rw [this]
      decide
    rw [nx_blank (by omega) (by rw [hb]; decide), ← e3]
    exact hst
def Alk (x y : Tk) : Prop := x.k = y.k ∧ x.n = y.n ∧ x.s = y.s
theorem jn_toks (M : List Tk) (hw : ∀ x ∈ M, Was x) : ∀ k, k ≤ M.length → ∃ L' : List Tk, L'.length = k ∧ (∀ (i : Nat) (x y : Tk), L'[i]? = some x → M[i]? = some y → Alk x y) ∧ app L' (toks (jn M M.length) (jn M k).size) = toks (jn M M.length) 0 := by
  intro k
  induction k with
  | zero => intro _; exact ⟨[], rfl, fun i x y h => by simp at h, app_nil _⟩
  | succ k ih =>
    intro hk
    obtain ⟨L', hl, ha, he⟩ := ih (by omega)
    have hx : M[k]? = some (M[k]'(by omega)) := List.getElem?_eq_getElem _
    obtain ⟨h1, h2, h3⟩ := jn_on hx (hw _ (List.getElem_mem _))
    have hle := jn_len_le M (show k ≤ M.length by omega)
    refine ⟨L' ++ [⟨M[k].k, M[k].n, M[k].s, ((hd M k).size : Nat), ((jn M (k + 1)).size : Nat)⟩], by simp [hl], fun i x y hi hy => ?_, ?_⟩
    · rcases Nat.lt_or_ge i L'.length with h | h
      · rw [List.getElem?_append_left h] at hi
        exact ha i x y hi hy
      · rw [List.getElem?_append_right h] at hi
        have hi0 : i = k := by
          have := (List.getElem?_eq_some_iff.1 hi).1
          simp at this
          omega
        subst hi0
        rw [hl, Nat.sub_self, List.getElem?_cons_zero] at hi
        rw [hx] at hy
        have e1 := Option.some.inj hi
        have e2 := Option.some.inj hy
        subst e1
        subst e2
        exact ⟨rfl, rfl, rfl⟩
    · have e := app_step (s := jn M M.length) (i := (jn M k).size) (L := L') (by rw [h1]; exact h2) hle (by rw [h1, h3])
      rw [h1, h3] at e
      rw [← he, e]
      rfl
theorem jn_tokens (M : List Tk) (hw : ∀ x ∈ M, Was x) (h8 : (jn M M.length).size ≤ 8192) : ∃ L' : List Tk, L'.length = M.length ∧ (∀ (i : Nat) (x y : Tk), L'[i]? = some x → M[i]? = some y → Alk x y) ∧ tokens (jn M M.length) = (L' ++ [tkEnd (jn M M.length)], 0, 0) := by
  obtain ⟨L', hl, ha, he⟩ := jn_toks M hw M.length (Nat.le_refl _)
  refine ⟨L', hl, ha, ?_⟩
  unfold tokens
  rw [if_neg (by omega), ← he, app_end (by rw [nx_end (Nat.le_refl _)]; exact Nat.le_refl _)]
end Go.Proofs.YtlkggpjdaaglmaaGreatDoor.lx
end
section
namespace Go.Proofs.YtlkggpjdaaglmaaGreatDoor.am
open vt
set_option linter.unusedVariables false
def Wz (y : Tok) : Prop := ∃ x : lx.Tk, lx.Was x ∧ x.k = y.k ∧ x.n = y.n ∧ x.s = y.s
theorem wz_kwd {s : ByteArray} {n : Nat} (h : lx.on s 0 = (⟨quo s, 0, s, 0, n⟩, 0)) (h0 : 0 < s.size) (h1 : s.size ≤ 8192) : Wz (kwd s) := ⟨_, ⟨s, 0, h1, h0, h⟩, rfl, rfl, rfl⟩
theorem wz_true : Wz (kwd wTrue) := wz_kwd (n := 4) (by kernel_rfl) (by decide) (by decide)
theorem wz_fals : Wz (kwd wFals) := wz_kwd (n := 5) (by kernel_rfl) (by decide) (by decide)
theorem wz_read : Wz (kwd wRead) := wz_kwd (n := 4) (by kernel_rfl) (by decide) (by decide)
theorem wz_new : Wz (kwd wNew) := wz_kwd (n := 3) (by kernel_rfl) (by decide) (by decide)
theorem wz_min : Wz (kwd sMin) := wz_kwd (n := 1) (by kernel_rfl) (by decide) (by decide)
theorem wz_not : Wz (kwd sNot) := wz_kwd (n := 1) (by kernel_rfl) (by decide) (by decide)
theorem wz_open : Wz (kwd sOpen) := wz_kwd (n := 1) (by kernel_rfl) (by decide) (by decide)
theorem wz_shut : Wz (kwd sShut) := wz_kwd (n := 1) (by kernel_rfl) (by decide) (by decide)
theorem wz_dot : Wz (kwd sDot) := wz_kwd (n := 1) (by kernel_rfl) (by decide) (by decide)
theorem wz_com : Wz (kwd sCom) := wz_kwd (n := 1) (by kernel_rfl) (by decide) (by decide)
theorem wz_paro : Wz (kwd sParO) := wz_kwd (n := 1) (by kernel_rfl) (by decide) (by decide)
theorem wz_pars : Wz (kwd sParS) := wz_kwd (n := 1) (by kernel_rfl) (by decide) (by decide)
theorem wz_at : Wz (kwd sAt) := wz_kwd (n := 1) (by kernel_rfl) (by decide) (by decide)
theorem wz_op {n : Int} (h1 : 1 ≤ n) (h2 : n ≤ 13) : Wz (kwd (opB n).1) := by
  have : n = 1 ∨ n = 2 ∨ n = 3 ∨ n = 4 ∨ n = 5 ∨ n = 6 ∨ n = 7 ∨ n = 8 ∨ n = 9 ∨ n = 10 ∨ n = 11 ∨ n = 12 ∨ n = 13 := by omega
  rcases this with rfl | rfl | rfl | rfl | rfl | rfl | rfl | rfl | rfl | rfl | rfl | rfl | rfl
  · exact wz_kwd (n := 2) (by kernel_rfl) (by decide) (by decide)
  · exact wz_kwd (n := 2) (by kernel_rfl) (by decide) (by decide)
  · exact wz_kwd (n := 2) (by kernel_rfl) (by decide) (by decide)
  · exact wz_kwd (n := 2) (by kernel_rfl) (by decide) (by decide)
  · exact wz_kwd (n := 1) (by kernel_rfl) (by decide) (by decide)
  · exact wz_kwd (n := 2) (by kernel_rfl) (by decide) (by decide)
  · exact wz_kwd (n := 1) (by kernel_rfl) (by decide) (by decide)
  · exact wz_kwd (n := 2) (by kernel_rfl) (by decide) (by decide)
  · exact wz_kwd (n := 1) (by kernel_rfl) (by decide) (by decide)
  · exact wz_kwd (n := 1) (by kernel_rfl) (by decide) (by decide)
  · exact wz_kwd (n := 1) (by kernel_rfl) (by decide) (by decide)
  · exact wz_kwd (n := 1) (by kernel_rfl) (by decide) (by decide)
  · exact wz_kwd (n := 1) (by kernel_rfl) (by decide) (by decide)
def TkW (ts : List Tok) : Prop := ∀ j, ((nxt ts j).k = 1 → Wz (nmT (nxt ts j).s)) ∧ ((nxt ts j).k = 2 → Wz (nbT (nxt ts j).n) ∧ 0 ≤ (nxt ts j).n ∧ (nxt ts j).n ≤ 9223372036854775807)
def AllW (M : List Tok) : Prop := ∀ y ∈ M, Wz y
theorem alw_app {A B : List Tok} : AllW (A ++ B) ↔ AllW A ∧ AllW B := ⟨fun h => ⟨fun w hw => h w (List.mem_append_left _ hw), fun w hw => h w (List.mem_append_right _ hw)⟩, fun h w hw => (List.mem_append.1 hw).elim (h.1 w) (h.2 w)⟩
theorem alw_one {y : Tok} (h : Wz y) : AllW [y] := fun z hz => by rw [List.mem_singleton.1 hz]; exact h
theorem alw_par {b : Int} {A : List Tok} {n : Int} (h : AllW A) : AllW (parK b A n) := by
  unfold parK
  split
  · exact h
  · exact alw_app.2 ⟨alw_app.2 ⟨alw_one wz_paro, h⟩, alw_one wz_pars⟩
theorem alw_pre : ∀ (Ms : List (List Tok)), (∀ M ∈ Ms, AllW M) → AllW (preK [kwd sCom] Ms)
  | [], _ => fun y hy => by cases hy
  | [M], h => by
    have : preK [kwd sCom] [M] = M := by simp [preK]
    rw [this]; exact h M (.head _)
  | M :: M2 :: r, h => by
    rw [preK_two]
    exact alw_app.2 ⟨h M (.head _), alw_app.2 ⟨alw_one wz_com, alw_pre (M2 :: r) (fun N hN => h N (.tail _ hN))⟩⟩
def KX (t : VT) : Prop := ∃ M, KE t M ∧ AllW M
theorem all_toks {l : List VT} (h : ∀ d ∈ l, KX d) : ∃ Ms : List (List Tok), l.length = Ms.length ∧ (∀ (i : Nat) t M, l[i]? = some t → Ms[i]? = some M → KE t M) ∧ ∀ M ∈ Ms, AllW M := by
  induction l with
  | nil => exact ⟨[], rfl, fun i t W h => by simp at h, fun M hM => by cases hM⟩
  | cons d l ih =>
    obtain ⟨M, hM, hA⟩ := h d (.head _)
    obtain ⟨Ms, h1, h2, h3⟩ := ih (fun e he => h e (.tail _ he))
    refine ⟨M :: Ms, by simp [h1], fun i t V a b => ?_, fun N hN => ?_⟩
    · cases i with
      | zero => simp at a b; subst a b; exact hM
      | succ i => simp at a b; exact h2 i t V a b
    · rcases List.mem_cons.1 hN with rfl | hN
      · exact hA
      · exact h3 N hN
section
variable {ts : List Tok}
theorem lpL_kx {P : Nat → Got} {l a : Nat} (hl : l ≤ 5) (hP : ∀ i, (P i).2.2 = 0 → KX (P i).1) : ∀ (m : Nat) (t : Bool) (x : Got), (x.2.2 = 0 → KX x.1) → (lpL ts P l a m t x).2.2 = 0 → KX (lpL ts P l a m t x).1
  | 0, t, x, hx, h => hx h
  | m + 1, t, x, hx, h => by
    unfold lpL at h ⊢
    split
    · rename_i c; rw [if_pos c] at h; exact hx h
    rename_i c; rw [if_neg c] at h
    have c : x.2.2 = 0 := by simpa using c
    split
    · rename_i c2; rw [if_pos c2] at h; exact hx h
    rename_i c2; rw [if_neg c2] at h
    split
    · rename_i c3; rw [if_pos c3] at h; exact hP _ h
    rename_i c3; rw [if_neg c3] at h
    have c3 : (P (x.2.1 + 1)).2.2 = 0 := by simpa using c3
    refine lpL_kx hl hP m true _ (fun _ => ?_) h
    have ho : (opK (nxt ts x.2.1)).2 = l := by
      by_cases e : (opK (nxt ts x.2.1)).2 = l
      · exact e
      · exact absurd (.inl e) c2
    have hr := opK_rng (x := nxt ts x.2.1) (by omega)
    obtain ⟨A, hA, wA⟩ := hx c
    obtain ⟨C, hC, wC⟩ := hP _ c3
    obtain ⟨⟨ax, al⟩, x2⟩ := x
    dsimp only at *
    generalize P (x2.1 + 1) = y at hC ⊢
    obtain ⟨⟨cx, cl⟩, y2⟩ := y
    exact ⟨_, .bin _ ax cx al cl A C rfl rfl hr.1 hr.2 hA hC, alw_app.2 ⟨alw_par wA, alw_app.2 ⟨alw_one (wz_op hr.1 hr.2), alw_par wC⟩⟩⟩
theorem lpP_kx {E : Nat → Got} {a : Nat} (hT : TkW ts) (hE : ∀ i, (E i).2.2 = 0 → KX (E i).1) : ∀ (m : Nat) (x : Got), (x.2.2 = 0 → KX x.1) → (lpP ts E a m x).2.2 = 0 → KX (lpP ts E a m x).1
  | 0, x, hx, h => hx h
  | m + 1, x, hx, h => by
    unfold lpP at h ⊢
    split
    · rename_i c; rw [if_pos c] at h; exact hx h
    rename_i c; rw [if_neg c] at h
    have c : x.2.2 = 0 := by simpa using c
    obtain ⟨A, hA, wA⟩ := hx c
    obtain ⟨⟨ax, al⟩, x2⟩ := x
    dsimp only at *
    split
    · rename_i c2; rw [if_pos c2] at h
      split
      · rename_i c3; rw [if_pos c3] at h; exact hE _ h
      rename_i c3; rw [if_neg c3] at h
      have c3 : (E (x2.1 + 1)).2.2 = 0 := by simpa using c3
      split
      · rename_i c4; rw [if_pos c4] at h; simp [bad7] at h
      rename_i c4; rw [if_neg c4] at h
      refine lpP_kx hT hE m _ (fun _ => ?_) h
      obtain ⟨C, hC, wC⟩ := hE _ c3
      generalize E (x2.1 + 1) = y at hC ⊢
      obtain ⟨⟨cx, cl⟩, y2⟩ := y
      exact ⟨_, .idx _ ax cx al cl A C rfl rfl rfl hA hC, alw_app.2 ⟨alw_par wA, alw_app.2 ⟨alw_one wz_open, alw_app.2 ⟨wC, alw_one wz_shut⟩⟩⟩⟩
    rename_i c2; rw [if_neg c2] at h
    split
    · rename_i c3; rw [if_pos c3] at h
      split
      · rename_i c4; rw [if_pos c4] at h; simp [bad7] at h
      rename_i c4; rw [if_neg c4] at h
      have c4 : (nxt ts (x2.1 + 1)).k = 1 := by simpa using c4
      exact lpP_kx hT hE m _ (fun _ => ⟨_, .fld _ ax al A rfl rfl hA, alw_app.2 ⟨alw_par wA, alw_app.2 ⟨alw_one wz_dot, alw_one ((hT _).1 c4)⟩⟩⟩) h
    · rename_i c3; rw [if_neg c3] at h
      exact ⟨A, hA, wA⟩
theorem lpC_ne {E : Nat → Got} : ∀ (m i : Nat) (acc : List VT), (lpC ts E m i acc).2.2 = 0 → (lpC ts E m i acc).1 ≠ []
  | 0, i, acc, h => by simp [lpC] at h
  | m + 1, i, acc, h => by
    unfold lpC at h ⊢
    split
    · rename_i c; rw [if_pos c] at h; exact absurd h c
    rename_i c; rw [if_neg c] at h
    split
    · simp
    · rename_i c2; rw [if_neg c2] at h
      exact lpC_ne m _ _ h
theorem cloG_ne {E : Nat → Got} {o : Nat} {fs ls : ByteArray} (h : (cloG ts E o false fs ls).2.2 = 0) : (cloG ts E o false fs ls).1 ≠ [] := by
  unfold cloG at h ⊢
  split
  · rename_i c; rw [if_pos c] at h; exact absurd (show (6 : Int) = 0 from h) (by decide)
  rename_i c; rw [if_neg c] at h
  split
  · rename_i c2; exact absurd c2.1 (by decide)
  rename_i c2; rw [if_neg c2] at h
  split
  · rename_i c3; rw [if_pos c3] at h; exact absurd h c3
  rename_i c3; rw [if_neg c3] at h
  have c3 : (lpC ts E (ts.length + 1) (o + 1) []).2.2 = 0 := by simpa using c3
  split
  · rename_i c4; rw [if_pos c4] at h; exact absurd (show (6 : Int) = 0 from h) (by decide)
  · exact lpC_ne _ _ _ c3
theorem fin_kx {i : Nat} {k : Int} {s : ByteArray} {c : List VT × Nat × Int} (hk : (k = 14 ∧ s = ⟨#[]⟩) ∨ ((k = 15 ∨ k = 16 ∨ k = 17) ∧ Wz (nmT s))) (hne : k = 14 ∨ k = 15 → c.2.2 = 0 → c.1 ≠ []) (hc : c.2.2 = 0 → ∀ d ∈ c.1, KX d) (h : (finC ts i k s c).2.2 = 0) : KX (finC ts i k s c).1 := by
  unfold finC at h ⊢
  split
  · rename_i c1; rw [if_pos c1] at h; exact absurd h c1
  rename_i c1
  have c1 : c.2.2 = 0 := by simpa using c1
  obtain ⟨Ms, h1, h2, h3⟩ := all_toks (hc c1)
  have hp := alw_pre Ms h3
  rcases hk with ⟨rfl, rfl⟩ | ⟨rfl | rfl | rfl, hs⟩
  · exact ⟨_, .lst _ _ Ms rfl rfl rfl (hne (.inl rfl) c1) h1 h2, alw_app.2 ⟨alw_one wz_open, alw_app.2 ⟨hp, alw_one wz_shut⟩⟩⟩
  · exact ⟨_, .mak _ _ Ms rfl rfl (hne (.inr rfl) c1) h1 h2, alw_app.2 ⟨alw_one wz_new, alw_app.2 ⟨alw_one hs, alw_app.2 ⟨alw_one wz_paro, alw_app.2 ⟨hp, alw_one wz_pars⟩⟩⟩⟩⟩
  · exact ⟨_, .cal _ _ Ms rfl rfl h1 h2, alw_app.2 ⟨alw_one hs, alw_app.2 ⟨alw_one wz_paro, alw_app.2 ⟨hp, alw_one wz_pars⟩⟩⟩⟩
  · exact ⟨_, .ext _ _ Ms rfl rfl h1 h2, alw_app.2 ⟨alw_one wz_at, alw_app.2 ⟨alw_one hs, alw_app.2 ⟨alw_one wz_paro, alw_app.2 ⟨hp, alw_one wz_pars⟩⟩⟩⟩⟩
theorem calG_kx {E : Nat → Got} (hT : TkW ts) (hE : ∀ i, (E i).2.2 = 0 → KX (E i).1) {i : Nat} (h : (calG ts E i).2.2 = 0) : KX (calG ts E i).1 := by
  unfold calG at h ⊢
  split
  · rename_i c; rw [if_pos c] at h; exact fin_kx (.inr ⟨.inr (.inl rfl), (hT _).1 c⟩) (fun e => by omega) (cloG_all hE) h
  rename_i c; rw [if_neg c] at h
  split
  · rename_i c; rw [if_pos c] at h; exact fin_kx (.inl ⟨rfl, rfl⟩) (fun _ => cloG_ne) (cloG_all hE) h
  rename_i c; rw [if_neg c] at h
  split
  · rename_i c; rw [if_pos c] at h
    split
    · rename_i c; rw [if_pos c] at h; simp [bad7] at h
    · rename_i c; rw [if_neg c] at h
      have c : (nxt ts (i + 1)).k = 1 := by simpa using c
      exact fin_kx (.inr ⟨.inr (.inr rfl), (hT _).1 c⟩) (fun e => by omega) (cloG_all hE) h
  rename_i c; rw [if_neg c] at h
  split
  · rename_i c; rw [if_pos c] at h
    split
    · rename_i c; rw [if_pos c] at h; simp [bad7] at h
    · rename_i c; rw [if_neg c] at h
      have c : (nxt ts (i + 1)).k = 1 := by simpa using c
      exact fin_kx (.inr ⟨.inl rfl, (hT _).1 c⟩) (fun _ => cloG_ne) (cloG_all hE) h
  · rename_i c; rw [if_neg c] at h; simp [bad7] at h
theorem atoG_kx {E : Nat → Got} (hT : TkW ts) (hE : ∀ i, (E i).2.2 = 0 → KX (E i).1) {i : Nat} (h : (atoG ts E i).2.2 = 0) : KX (atoG ts E i).1 := by
  unfold atoG at h ⊢
  split
  · rename_i c
    obtain ⟨w1, w2, w3⟩ := (hT _).2 c
    exact ⟨_, .num _ rfl rfl w2 w3, alw_one w1⟩
  rename_i c; rw [if_neg c] at h
  split
  · exact ⟨_, .tru _ rfl rfl rfl, alw_one wz_true⟩
  rename_i c; rw [if_neg c] at h
  split
  · exact ⟨_, .fls _ rfl rfl rfl, alw_one wz_fals⟩
  rename_i c; rw [if_neg c] at h
  split
  · exact ⟨_, .read _ rfl rfl rfl, alw_one wz_read⟩
  rename_i c; rw [if_neg c] at h
  split
  · rename_i c; exact ⟨_, .nam _ rfl rfl, alw_one ((hT _).1 c.1)⟩
  rename_i c; rw [if_neg c] at h
  split
  · rename_i c; rw [if_pos c] at h
    split
    · rename_i c; rw [if_pos c] at h; exact hE _ h
    rename_i c; rw [if_neg c] at h
    split
    · rename_i c; rw [if_pos c] at h; simp [bad7] at h
    · have c : (E (i + 1)).2.2 = 0 := by simpa using c
      exact hE _ c
  · rename_i c; rw [if_neg c] at h; exact calG_kx hT hE h
theorem pG_kx (hT : TkW ts) : ∀ (n w i : Nat), (pG ts n w i).2.2 = 0 → KX (pG ts n w i).1
  | 0, w, i, h => by simp [pG, bad7] at h
  | n + 1, w, i, h => by
    have ih := pG_kx hT n
    unfold pG bG at h ⊢
    split
    · rename_i c; rw [if_pos c] at h; exact lpL_kx c (ih (w + 1)) _ _ _ (ih (w + 1) i) h
    rename_i c; rw [if_neg c] at h
    split
    · rename_i c; rw [if_pos c] at h
      split
      · rename_i c; rw [if_pos c] at h; exact ih _ _ h
      rename_i c0; rw [if_neg c0] at h
      split
      · rename_i c; rw [if_pos c] at h; exact ih _ _ h
      rename_i c; rw [if_neg c] at h
      have c : (pG ts n 6 (i + 1)).2.2 = 0 := by simpa using c
      obtain ⟨A, hA, wA⟩ := ih _ _ c
      generalize pG ts n 6 (i + 1) = y at hA ⊢
      obtain ⟨⟨ax, al⟩, y2⟩ := y
      have hu : unN ts i = 1 ∨ unN ts i = 2 := by
        unfold unN at c0 ⊢
        split
        · exact .inr rfl
        · split
          · exact .inl rfl
          · rename_i g1 g2; rw [if_neg g1, if_neg g2] at c0; exact absurd rfl c0
      rcases hu with hu | hu
      · exact ⟨_, .neg _ ax al A rfl hu rfl hA, alw_app.2 ⟨alw_one wz_min, alw_par wA⟩⟩
      · exact ⟨_, .nt _ ax al A rfl hu rfl hA, alw_app.2 ⟨alw_one wz_not, alw_par wA⟩⟩
    rename_i c; rw [if_neg c] at h
    split
    · rename_i c; rw [if_pos c] at h; exact lpP_kx hT (ih 1) _ _ (ih 8 i) h
    · rename_i c; rw [if_neg c] at h; exact atoG_kx hT (ih 1) h
end
end Go.Proofs.YtlkggpjdaaglmaaGreatDoor.am
end
