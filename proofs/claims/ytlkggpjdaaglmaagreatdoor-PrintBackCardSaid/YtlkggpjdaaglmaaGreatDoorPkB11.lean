import Derived.Test.YtlkggpjdaaglmaaGreatDoorPkB10
import Derived.Test.YtlkggpjdaaglmaaGreatDoorPkB9
import Derived.Test.YtlkggpjdaaglmaaGreatDoorPkB7
section
namespace Go.Proofs.YtlkggpjdaaglmaaGreatDoor.am
open vt
set_option linter.unusedVariables false
inductive KF : VT → List Tok → Prop
  | mk (x a : Lab) (al : List VT) (A : List Tok) (h : x.k = 34) (hn : x.n = 0) (ha : KTp (.mk a al) A) : KF (.mk x [.mk a al]) ([nmT x.s] ++ ([kwd sCol] ++ A))
inductive KD : VT → List Tok → Prop
  | rec' (x : Lab) (l : List VT) (Ms : List (List Tok)) (h : x.k = 30) (hn : x.n = 0) (h0 : l ≠ []) (hl : l.length = Ms.length) (hw : ∀ (i : Nat) t M, l[i]? = some t → Ms[i]? = some M → KF t M) : KD (.mk x l) ([kwd wRec] ++ ([nmT x.s] ++ ([kwd sBra] ++ ((Ms.map (· ++ [kwd sEnd])).flatten ++ [kwd sKet]))))
  | dfn (x a : Lab) (A : List Tok) (h : x.k = 31) (hn : x.n = 0) (hk : a.k = 5 ∨ a.k = 6) (ha : KE (.mk a []) A) : KD (.mk x [.mk a []]) ([kwd wConst] ++ ([nmT x.s] ++ ([kwd sIs] ++ (A ++ [kwd sEnd]))))
  | var' (x a : Lab) (al : List VT) (A : List Tok) (h : x.k = 32) (hn : x.n = 0) (ha : KTp (.mk a al) A) : KD (.mk x [.mk a al]) ([kwd wVar] ++ ([nmT x.s] ++ ([kwd sCol] ++ (A ++ [kwd sEnd]))))
  | fn (x p r b : Lab) (pl rl bl : List VT) (Ms : List (List Tok)) (V R B : List Tok) (h : x.k = 33) (hv : (x.n = 0 ∧ V = []) ∨ (x.n = 1 ∧ V = [kwd wPub])) (p1 : p.k = 35) (p2 : p.n = 0) (p3 : p.s = ⟨#[]⟩) (hl : pl.length = Ms.length) (hw : ∀ (i : Nat) t M, pl[i]? = some t → Ms[i]? = some M → KF t M) (hr : KTp (.mk r rl) R) (hk : b.k = 29) (hb : KS (.mk b bl) B) : KD (.mk x [.mk p pl, .mk r rl, .mk b bl]) (V ++ ([kwd wFn] ++ ([nmT x.s] ++ ([kwd sParO] ++ (preK [kwd sCom] Ms ++ ([kwd sParS] ++ ([kwd sCol] ++ (R ++ B))))))))
theorem kf_hd {t : VT} {M : List Tok} (h : KF t M) : ∃ s r, M = nmT s :: r := by cases h; exact ⟨_, _, rfl⟩
theorem kd_ne {t : VT} {M : List Tok} (h : KD t M) : M ≠ [] := by
  cases h with
  | fn x p r b pl rl bl Ms V R B => simp
  | _ => simp
section
variable {ts : List Tok}
theorem kf_read {t : VT} {M : List Tok} (h : KF t M) {i : Nat} (hk : Lk ts i M) (hb : i + M.length ≤ ts.length) : ∃ t', Sm t' t ∧ partG ts i = (t', i + M.length, 0) := by
  cases h with
  | mk x a al A h hn ha =>
    obtain ⟨k1, k2⟩ := lk_app.1 hk
    obtain ⟨k2, k3⟩ := lk_app.1 k2
    simp only [List.length_append, List.length_singleton] at hb k2 k3 ⊢
    have k1 := lk_one.1 k1; have k2 := lk_one.1 k2
    obtain ⟨a', g1, g2⟩ := kt_read ha (ts.length + 1) (i + 1 + 1) (by omega) k3 (by omega)
    have hN : i + (1 + (1 + A.length)) = i + 1 + 1 + A.length := by omega
    rw [hN]
    refine ⟨.mk ⟨34, 0, (nxt ts i).s, frT ts i, toT ts (i + 1 + 1 + A.length - 1)⟩ [a'], sm1 h.symm hn.symm k1.s g1, ?_⟩
    have g2 : Ty9 ts 1 (i + 1 + 1) = (a', i + 1 + 1 + A.length, 0) := g2
    unfold partG
    rw [itG_nam, if_pos (show (nxt ts i).k = 1 from k1.k), itG_sgn, if_pos (by rw [lke_isK k2]; decide), itG_sub, g2, if_pos rfl, itH]
    rfl
theorem lpC_readF : ∀ (l : List VT) (Ms : List (List Tok)), l ≠ [] → l.length = Ms.length → (∀ (k : Nat) t M, l[k]? = some t → Ms[k]? = some M → KF t M) → ∀ (m i : Nat) (acc : List VT), Lk ts i (preK [kwd sCom] Ms) → i + (preK [kwd sCom] Ms).length ≤ ts.length → isK sCom (nxt ts (i + (preK [kwd sCom] Ms).length)) = false → Ms.length ≤ m → ∃ l', SmL l' l ∧ lpC ts (partG ts) m i acc = (acc ++ l', i + (preK [kwd sCom] Ms).length, 0)
  | [], Ms, h0, hl, hw, m, i, acc, h1, h2, h3, h6 => absurd rfl h0
  | t :: l, [], h0, hl, hw, m, i, acc, h1, h2, h3, h6 => by simp at hl
  | [t], [M], h0, hl, hw, m, i, acc, h1, h2, h3, h6 => by
    have e : preK [kwd sCom] [M] = M := by simp [preK]
    rw [e] at h1 h2 h3 ⊢
    obtain ⟨t', g1, he⟩ := kf_read (hw 0 t M rfl rfl) h1 h2
    obtain ⟨m, rfl⟩ : ∃ q, m = q + 1 := ⟨m - 1, by simp at h6; omega⟩
    refine ⟨[t'], ⟨rfl, fun k a b ha hb => ?_⟩, ?_⟩
    · cases k with
      | zero => simp at ha hb; subst ha hb; exact g1
      | succ k => simp at ha
    · rw [lpC, he, if_neg (by simp), if_pos h3]
  | [t], M :: M2 :: Ms, h0, hl, hw, m, i, acc, h1, h2, h3, h6 => by simp at hl
  | t :: u :: l, [M], h0, hl, hw, m, i, acc, h1, h2, h3, h6 => by simp at hl
  | t :: u :: l, M :: M2 :: Ms, h0, hl, hw, m, i, acc, h1, h2, h3, h6 => by
    rw [preK_two] at h1 h2 h3 ⊢
    obtain ⟨k1, k2⟩ := lk_app.1 h1
    obtain ⟨k2, k3⟩ := lk_app.1 k2
    simp only [List.length_append, List.length_singleton] at h2 h3 k3 ⊢
    have k2 := lk_one.1 k2
    obtain ⟨t', g1, he⟩ := kf_read (hw 0 t M rfl rfl) k1 (by omega)
    obtain ⟨m, rfl⟩ : ∃ q, m = q + 1 := ⟨m - 1, by simp at h6; omega⟩
    have hN : i + (M.length + (1 + (preK [kwd sCom] (M2 :: Ms)).length)) = i + M.length + 1 + (preK [kwd sCom] (M2 :: Ms)).length := by omega
    rw [hN] at h2 h3 ⊢
    obtain ⟨l', q1, q2⟩ := lpC_readF (u :: l) (M2 :: Ms) (by simp) (by simpa using hl) (fun k t' M' a b => hw (k + 1) t' M' (by simpa using a) (by simpa using b)) m (i + M.length + 1) (acc ++ [t']) k3 h2 h3 (by simp at h6 ⊢; omega)
    refine ⟨t' :: l', ⟨by simp only [List.length_cons, q1.1], fun k a b ha hb => ?_⟩, ?_⟩
    · cases k with
      | zero => simp at ha hb; subst ha hb; exact g1
      | succ k => exact q1.2 k a b (by simpa using ha) (by simpa using hb)
    · rw [lpC, he, if_neg (by simp)]
      dsimp only
      rw [if_neg (by rw [lke_isK k2]; decide), q2]
      simp
theorem par_back (p : Lab) (pl : List VT) (Ms : List (List Tok)) (p1 : p.k = 35) (p2 : p.n = 0) (p3 : p.s = ⟨#[]⟩) (hl : pl.length = Ms.length) (hw : ∀ (k : Nat) t M, pl[k]? = some t → Ms[k]? = some M → KF t M) {o : Nat} (h : Lk ts o ([kwd sParO] ++ (preK [kwd sCom] Ms ++ [kwd sParS]))) (hb : o + (1 + ((preK [kwd sCom] Ms).length + 1)) ≤ ts.length) : ∃ t', Sm t' (.mk p pl) ∧ parG ts o = (t', o + 1 + (preK [kwd sCom] Ms).length + 1, 0) := by
  obtain ⟨k1, k2⟩ := lk_app.1 h
  obtain ⟨k2, k3⟩ := lk_app.1 k2
  simp only [List.length_singleton] at k2 k3
  have k1 := lk_one.1 k1
  have k3 := lk_one.1 k3
  have hn : ∀ M ∈ Ms, M ≠ [] := fun M hM => by
    obtain ⟨i, hi⟩ := List.mem_iff_getElem?.1 hM
    have hlt := (List.getElem?_eq_some_iff.1 hi).1
    obtain ⟨y, r, e⟩ := kf_hd (hw i _ M (List.getElem?_eq_getElem (by omega)) hi)
    rw [e]; simp
  have hge := preK_ge (S := [kwd sCom]) Ms hn
  have hclo : ∃ l', SmL l' pl ∧ cloG ts (partG ts) o true sParO sParS = (l', o + 1 + (preK [kwd sCom] Ms).length + 1, 0) := by
    unfold cloG
    rw [if_neg (by rw [lke_isK k1]; decide)]
    by_cases hl0 : pl = []
    · subst hl0
      have hM : Ms = [] := List.length_eq_zero_iff.1 hl.symm
      subst hM
      have k3' : Lke (nxt ts (o + 1)) (kwd sParS) := by simpa [preK] using k3
      rw [if_pos ⟨rfl, by rw [lke_isK k3']; decide⟩]
      exact ⟨[], ⟨rfl, fun i a b h => by simp at h⟩, by simp [preK]⟩
    · have hM : Ms ≠ [] := fun e => hl0 (List.length_eq_zero_iff.1 (by rw [hl, e]; rfl))
      have hf : ¬ (true = true ∧ isK sParS (nxt ts (o + 1)) = true) := by
        rintro ⟨g1, g2⟩
        obtain ⟨t, l2, rfl⟩ := List.exists_cons_of_ne_nil hl0
        obtain ⟨M, r, rfl⟩ := List.exists_cons_of_ne_nil hM
        obtain ⟨y, q, e⟩ := kf_hd (hw 0 t M rfl rfl)
        have hy : Lke (nxt ts (o + 1)) (nmT y) := by
          have := k2 0 (nmT y) (by rw [e]; unfold preK; rfl)
          simpa using this
        rw [lke_isK hy, isK_nm] at g2
        cases g2
      rw [if_neg hf]
      obtain ⟨l', q1, q2⟩ := lpC_readF pl Ms hl0 hl hw (ts.length + 1) (o + 1) [] k2 (by omega) (by rw [lke_isK k3]; decide) (by omega)
      rw [q2, List.nil_append]
      dsimp only
      rw [if_neg (by simp), if_neg (by rw [lke_isK k3]; decide)]
      exact ⟨l', q1, rfl⟩
  obtain ⟨l', q1, q2⟩ := hclo
  refine ⟨.mk ⟨35, 0, ⟨#[]⟩, frT ts o, toT ts (o + 1 + (preK [kwd sCom] Ms).length + 1 - 1)⟩ l', smLs p1.symm p2.symm p3.symm q1, ?_⟩
  unfold parG
  rw [q2]
  unfold finC
  rw [if_neg (by simp)]
  rfl
theorem lpF_read : ∀ (l : List VT) (Ms : List (List Tok)), l.length = Ms.length → (∀ (k : Nat) t M, l[k]? = some t → Ms[k]? = some M → KF t M) → ∀ (m i : Nat) (acc : List VT), (l = [] → acc ≠ []) → Lk ts i ((Ms.map (· ++ [kwd sEnd])).flatten ++ [kwd sKet]) → i + ((Ms.map (· ++ [kwd sEnd])).flatten).length + 1 ≤ ts.length → Ms.length < m → ∃ l', SmL l' l ∧ lpF ts m i acc = (acc ++ l', i + ((Ms.map (· ++ [kwd sEnd])).flatten).length + 1, 0)
  | [], [], hl, hw, m, i, acc, h0, h1, h2, h3 => by
    obtain ⟨m, rfl⟩ : ∃ q, m = q + 1 := ⟨m - 1, by omega⟩
    simp only [List.map_nil, List.flatten_nil, List.nil_append, List.length_nil, Nat.add_zero] at h1 h2 ⊢
    have h1 := lk_one.1 h1
    exact ⟨[], ⟨rfl, fun i a b h => by simp at h⟩, by rw [lpF, if_pos ⟨h0 rfl, by rw [lke_isK h1]; decide⟩, List.append_nil]⟩
  | [], M :: Ms, hl, hw, m, i, acc, h0, h1, h2, h3 => by simp at hl
  | t :: l, [], hl, hw, m, i, acc, h0, h1, h2, h3 => by simp at hl
  | t :: l, M :: Ms, hl, hw, m, i, acc, h0, h1, h2, h3 => by
    obtain ⟨m, rfl⟩ : ∃ q, m = q + 1 := ⟨m - 1, by omega⟩
    simp only [List.map_cons, List.flatten_cons, List.append_assoc, List.length_append, List.length_singleton] at h1 h2 ⊢
    obtain ⟨k1, k2⟩ := lk_app.1 h1
    obtain ⟨k2, k3⟩ := lk_app.1 k2
    simp only [List.length_singleton] at k3
    have k2 := lk_one.1 k2
    obtain ⟨t', g1, g2⟩ := kf_read (hw 0 t M rfl rfl) k1 (by omega)
    obtain ⟨y, q, e⟩ := kf_hd (hw 0 t M rfl rfl)
    have hy := k1 0 (nmT y) (by rw [e]; rfl)
    rw [Nat.add_zero] at hy
    obtain ⟨l', q1, q2⟩ := lpF_read l Ms (by simpa using hl) (fun k t' M' a b => hw (k + 1) t' M' (by simpa using a) (by simpa using b)) m (i + M.length + 1) (acc ++ [t']) (fun _ => by simp) k3 (by omega) (by simp at h3; omega)
    refine ⟨t' :: l', ⟨by simp only [List.length_cons, q1.1], fun k a b ha hb => ?_⟩, ?_⟩
    · cases k with
      | zero => simp at ha hb; subst ha hb; exact g1
      | succ k => exact q1.2 k a b (by simpa using ha) (by simpa using hb)
    · rw [lpF, if_neg (fun g => by rw [lke_isK hy, isK_nm] at g; exact absurd g.2 (by decide)), g2, if_neg (by simp)]
      dsimp only
      rw [if_pos (by rw [lke_isK k2]; decide), q2, List.append_assoc]
      rw [show i + (M.length + (1 + ((Ms.map (· ++ [kwd sEnd])).flatten).length)) + 1 = i + M.length + 1 + ((Ms.map (· ++ [kwd sEnd])).flatten).length + 1 by omega]
      rfl
theorem r9_1 {i : Nat} : R9 ts 1 i = tyG ts (ts.length + 1) i := by unfold R9; rw [if_neg (by decide), if_pos rfl]
theorem r9_2 {i : Nat} : R9 ts 2 i = blG ts (sG ts (ts.length + 1)) i := by unfold R9; rw [if_pos rfl]; rfl
theorem r9_3 {i : Nat} : R9 ts 3 i = litG ts i := by unfold R9; rw [if_neg (by decide), if_neg (by decide), if_pos rfl]
theorem r9_4 {i : Nat} : R9 ts 4 i = parG ts i := by unfold R9; rw [if_neg (by decide), if_neg (by decide), if_neg (by decide)]
theorem lit_read {a : Lab} {A : List Tok} (hk : a.k = 5 ∨ a.k = 6) (ha : KE (.mk a []) A) {i : Nat} (h : Lk ts i A) : A.length = 1 ∧ ∃ t', Sm t' (.mk a []) ∧ litG ts i = (t', i + 1, 0) := by
  cases ha with
  | num x h5 hs h0 h1 =>
    have hk := lk_one.1 h
    refine ⟨rfl, .mk ⟨5, (nxt ts i).n, ⟨#[]⟩, frT ts i, toT ts (i + 1 - 1)⟩ [], sm0 h5.symm hk.n hs.symm, ?_⟩
    unfold litG
    rw [if_pos (show (nxt ts i).k = 2 from hk.k)]; rfl
  | tru x h6 hn hs =>
    have hk := lk_one.1 h
    refine ⟨rfl, .mk ⟨6, 1, ⟨#[]⟩, frT ts i, toT ts (i + 1 - 1)⟩ [], sm0 h6.symm hn.symm hs.symm, ?_⟩
    unfold litG
    rw [if_neg (by rw [hk.k]; decide), if_pos (by rw [lke_isK hk]; decide)]; rfl
  | fls x h6 hn hs =>
    have hk := lk_one.1 h
    refine ⟨rfl, .mk ⟨6, 0, ⟨#[]⟩, frT ts i, toT ts (i + 1 - 1)⟩ [], sm0 h6.symm hn.symm hs.symm, ?_⟩
    unfold litG
    rw [if_neg (by rw [hk.k]; decide), if_neg (by rw [lke_isK hk]; decide), if_pos (by rw [lke_isK hk]; decide)]; rfl
  | _ => omega
set_option maxHeartbeats 4000000 in
theorem kd_read {t : VT} {M : List Tok} (h : KD t M) {i : Nat} (hk : Lk ts i M) (hb : i + M.length ≤ ts.length) : ∃ t', Sm t' t ∧ declG ts i = (t', i + M.length, 0) := by
  cases h with
  | rec' x l Ms h hn h0 hl hw =>
    obtain ⟨k1, k2⟩ := lk_app.1 hk
    obtain ⟨k2, k3⟩ := lk_app.1 k2
    obtain ⟨k3, k4⟩ := lk_app.1 k3
    simp only [List.length_append, List.length_singleton] at hb k2 k3 k4 ⊢
    have k1 := lk_one.1 k1; have k2 := lk_one.1 k2; have k3 := lk_one.1 k3
    have hge : Ms.length ≤ ((Ms.map (· ++ [kwd sEnd])).flatten).length := by
      have := flat_ge (Ms.map (· ++ [kwd sEnd])) (fun M hM => by obtain ⟨N, _, rfl⟩ := List.mem_map.1 hM; simp)
      rwa [List.length_map] at this
    obtain ⟨l', q1, q2⟩ := lpF_read l Ms hl hw (ts.length + 1) (i + 1 + 1 + 1) [] (fun e => absurd e h0) k4 (by omega) (by omega)
    generalize ((Ms.map (· ++ [kwd sEnd])).flatten).length = Z at *
    have hN : i + (1 + (1 + (1 + (Z + 1)))) = i + 1 + 1 + 1 + Z + 1 := by omega
    rw [hN]
    refine ⟨.mk ⟨30, 0, (nxt ts (i + 1)).s, frT ts i, toT ts (i + 1 + 1 + 1 + Z + 1 - 1)⟩ l', smLs h.symm hn.symm k2.s q1, ?_⟩
    have q2 : lpF ts (ts.length + 1) (i + 3) [] = ([] ++ l', i + 1 + 1 + 1 + Z + 1, 0) := q2
    unfold declG recG
    rw [if_neg (by rw [lke_isK k1]; decide), if_neg (by rw [lke_isK k1]; decide), if_neg (by rw [lke_isK k1]; decide), if_neg (by rw [lke_isK k1]; decide), if_pos (by rw [lke_isK k1]; decide), if_pos (show (nxt ts (i + 1)).k = 1 from k2.k), if_pos (show isK sBra (nxt ts (i + 2)) = true by rw [show i + 2 = i + 1 + 1 from rfl, lke_isK k3]; decide), q2]
    unfold finC
    rw [if_neg (by simp)]
    rfl
  | dfn x a A h hn hk5 ha =>
    obtain ⟨k1, k2⟩ := lk_app.1 hk
    obtain ⟨k2, k3⟩ := lk_app.1 k2
    obtain ⟨k3, k4⟩ := lk_app.1 k3
    obtain ⟨k4, k5⟩ := lk_app.1 k4
    simp only [List.length_append, List.length_singleton] at hb k2 k3 k4 k5 ⊢
    have k1 := lk_one.1 k1; have k2 := lk_one.1 k2; have k3 := lk_one.1 k3; have k5 := lk_one.1 k5
    obtain ⟨hA, a', g1, g2⟩ := lit_read hk5 ha k4
    rw [hA] at hb k5 ⊢
    have hN : i + (1 + (1 + (1 + (1 + 1)))) = i + 1 + 1 + 1 + 1 + 1 := by omega
    rw [hN]
    refine ⟨.mk ⟨31, 0, (nxt ts (i + 1)).s, frT ts i, toT ts (i + 1 + 1 + 1 + 1 + 1 - 1)⟩ [a'], sm1 h.symm hn.symm k2.s g1, ?_⟩
    unfold declG
    rw [if_pos (by rw [lke_isK k1]; decide), itG_sgn, if_pos (by rw [lke_isK k1]; decide), itG_nam, if_pos (show (nxt ts (i + 1)).k = 1 from k2.k), itG_sgn, if_pos (by rw [lke_isK k3]; decide), itG_sub, r9_3, g2, if_pos rfl, itG_sgn, if_pos (by rw [lke_isK k5]; decide), itH]
    rfl
  | var' x a al A h hn ha =>
    obtain ⟨k1, k2⟩ := lk_app.1 hk
    obtain ⟨k2, k3⟩ := lk_app.1 k2
    obtain ⟨k3, k4⟩ := lk_app.1 k3
    obtain ⟨k4, k5⟩ := lk_app.1 k4
    simp only [List.length_append, List.length_singleton] at hb k2 k3 k4 k5 ⊢
    have k1 := lk_one.1 k1; have k2 := lk_one.1 k2; have k3 := lk_one.1 k3; have k5 := lk_one.1 k5
    obtain ⟨a', g1, g2⟩ := kt_read ha (ts.length + 1) _ (by omega) k4 (by omega)
    have hN : i + (1 + (1 + (1 + (A.length + 1)))) = i + 1 + 1 + 1 + A.length + 1 := by omega
    rw [hN]
    refine ⟨.mk ⟨32, 0, (nxt ts (i + 1)).s, frT ts i, toT ts (i + 1 + 1 + 1 + A.length + 1 - 1)⟩ [a'], sm1 h.symm hn.symm k2.s g1, ?_⟩
    unfold declG
    rw [if_neg (by rw [lke_isK k1]; decide), if_pos (by rw [lke_isK k1]; decide), itG_sgn, if_pos (by rw [lke_isK k1]; decide), itG_nam, if_pos (show (nxt ts (i + 1)).k = 1 from k2.k), itG_sgn, if_pos (by rw [lke_isK k3]; decide), itG_sub, r9_1, g2, if_pos rfl, itG_sgn, if_pos (by rw [lke_isK k5]; decide), itH]
    rfl
  | fn x p r b pl rl bl Ms V R B h hv p1 p2 p3 hl hw hr hk9 hB =>
    have core : ∀ j, Lk ts j ([kwd wFn] ++ ([nmT x.s] ++ ([kwd sParO] ++ (preK [kwd sCom] Ms ++ ([kwd sParS] ++ ([kwd sCol] ++ (R ++ B))))))) → j + (1 + (1 + (1 + ((preK [kwd sCom] Ms).length + (1 + (1 + (R.length + B.length))))))) ≤ ts.length → ∃ ps, SmL ps [.mk p pl, .mk r rl, .mk b bl] ∧ Lke (nxt ts j) (kwd wFn) ∧ Lke (nxt ts (j + 1)) (nmT x.s) ∧ ∀ a n, itH ts (R9 ts) a 33 n [.sgn wFn, .nam, .sub 4, .sgn sCol, .sub 1, .sub 2] j ⟨#[]⟩ [] = mk7 ts a (j + (1 + (1 + (1 + ((preK [kwd sCom] Ms).length + (1 + (1 + (R.length + B.length)))))))) 33 n (nxt ts (j + 1)).s ps := fun j hk hb => by
      obtain ⟨k1, k2⟩ := lk_app.1 hk
      obtain ⟨k2, k3⟩ := lk_app.1 k2
      have k3' : Lk ts (j + [kwd wFn].length + [nmT x.s].length) (([kwd sParO] ++ (preK [kwd sCom] Ms ++ [kwd sParS])) ++ ([kwd sCol] ++ (R ++ B))) := by
        have e : [kwd sParO] ++ (preK [kwd sCom] Ms ++ [kwd sParS]) ++ ([kwd sCol] ++ (R ++ B)) = [kwd sParO] ++ (preK [kwd sCom] Ms ++ ([kwd sParS] ++ ([kwd sCol] ++ (R ++ B)))) := by simp
        rw [e]; exact k3
      obtain ⟨k4, k5⟩ := lk_app.1 k3'
      obtain ⟨k5, k6⟩ := lk_app.1 k5
      obtain ⟨k6, k7⟩ := lk_app.1 k6
      simp only [List.length_append, List.length_singleton] at k2 k4 k5 k6 k7
      have k1 := lk_one.1 k1; have k2 := lk_one.1 k2; have k5 := lk_one.1 k5
      obtain ⟨p', g1, g2⟩ := par_back p pl Ms p1 p2 p3 hl hw k4 (by omega)
      generalize (preK [kwd sCom] Ms).length = Z at *
      rw [show j + 1 + 1 + (1 + (Z + 1)) = j + 1 + 1 + 1 + Z + 1 by omega] at k5 k6 k7
      obtain ⟨r', g3, g4⟩ := kt_read hr (ts.length + 1) _ (by omega) k6 (by omega)
      obtain ⟨b', g5, g6⟩ := (ks_read hB).2 hk9 (ts.length + 1) (by omega) _ k7 (by omega)
      refine ⟨[p', r', b'], ⟨rfl, fun q c d hc hd => ?_⟩, k1, k2, fun a n => ?_⟩
      · match q, hc, hd with
        | 0, hc, hd => cases hc; cases hd; exact g1
        | 1, hc, hd => cases hc; cases hd; exact g3
        | 2, hc, hd => cases hc; cases hd; exact g5
        | q + 3, hc, hd => simp at hc
      · rw [itG_sgn, if_pos (by rw [lke_isK k1]; decide), itG_nam, if_pos (show (nxt ts (j + 1)).k = 1 from k2.k), itG_sub, r9_4, g2, if_pos rfl, itG_sgn, if_pos (by rw [lke_isK k5]; decide), itG_sub, r9_1, g4, if_pos rfl, itG_sub, r9_2, g6, if_pos rfl, itH]
        rw [show j + 1 + 1 + 1 + Z + 1 + 1 + R.length + B.length = j + (1 + (1 + (1 + (Z + (1 + (1 + (R.length + B.length))))))) by omega]
        rfl
    rcases hv with ⟨v1, rfl⟩ | ⟨v1, rfl⟩
    · rw [List.nil_append] at hk hb ⊢
      simp only [List.length_append, List.length_singleton] at hb ⊢
      obtain ⟨ps, s1, k1, k2, c1⟩ := core i hk hb
      refine ⟨_, smLs (x := ⟨33, 0, (nxt ts (i + 1)).s, frT ts i, toT ts (i + (1 + (1 + (1 + ((preK [kwd sCom] Ms).length + (1 + (1 + (R.length + B.length))))))) - 1)⟩) (l := ps) h.symm v1.symm k2.s s1, ?_⟩
      unfold declG
      rw [if_neg (by rw [lke_isK k1]; decide), if_neg (by rw [lke_isK k1]; decide), if_neg (by rw [lke_isK k1]; decide), if_pos (by rw [lke_isK k1]; decide), c1]
      rfl
    · obtain ⟨k0, hk⟩ := lk_app.1 hk
      simp only [List.length_append, List.length_singleton] at hk hb ⊢
      have k0 := lk_one.1 k0
      obtain ⟨ps, s1, k1, k2, c1⟩ := core (i + 1) hk (by omega)
      refine ⟨_, smLs (x := ⟨33, 1, (nxt ts (i + 1 + 1)).s, frT ts i, toT ts (i + 1 + (1 + (1 + (1 + ((preK [kwd sCom] Ms).length + (1 + (1 + (R.length + B.length))))))) - 1)⟩) (l := ps) h.symm v1.symm k2.s s1, ?_⟩
      unfold declG
      rw [if_neg (by rw [lke_isK k0]; decide), if_neg (by rw [lke_isK k0]; decide), if_pos (by rw [lke_isK k0]; decide), itG_sgn, if_pos (by rw [lke_isK k0]; decide), c1]
      rw [show i + (1 + (1 + (1 + (1 + ((preK [kwd sCom] Ms).length + (1 + (1 + (R.length + B.length)))))))) = i + 1 + (1 + (1 + (1 + ((preK [kwd sCom] Ms).length + (1 + (1 + (R.length + B.length))))))) by omega]
      rfl
theorem lpU_read : ∀ (l : List VT) (Ms : List (List Tok)), l.length = Ms.length → (∀ (k : Nat) t M, l[k]? = some t → Ms[k]? = some M → KD t M) → ∀ (m i : Nat) (acc : List VT), Lk ts i Ms.flatten → i + Ms.flatten.length + 1 = ts.length → Ms.length < m → ∃ l', SmL l' l ∧ lpU ts m i acc = (acc ++ l', i + Ms.flatten.length, 0)
  | [], [], hl, hw, m, i, acc, h1, h2, h3 => by
    obtain ⟨m, rfl⟩ : ∃ q, m = q + 1 := ⟨m - 1, by omega⟩
    simp only [List.flatten_nil, List.length_nil, Nat.add_zero] at h2 ⊢
    exact ⟨[], ⟨rfl, fun i a b h => by simp at h⟩, by rw [lpU, if_pos (by omega), List.append_nil]⟩
  | [], M :: Ms, hl, hw, m, i, acc, h1, h2, h3 => by simp at hl
  | t :: l, [], hl, hw, m, i, acc, h1, h2, h3 => by simp at hl
  | t :: l, M :: Ms, hl, hw, m, i, acc, h1, h2, h3 => by
    obtain ⟨m, rfl⟩ : ∃ q, m = q + 1 := ⟨m - 1, by omega⟩
    rw [List.flatten_cons] at h1
    rw [List.flatten_cons, List.length_append] at h2 ⊢
    obtain ⟨k1, k2⟩ := lk_app.1 h1
    have hM := List.length_pos_iff.2 (kd_ne (hw 0 t M rfl rfl))
    obtain ⟨t', g1, g2⟩ := kd_read (hw 0 t M rfl rfl) k1 (by omega)
    obtain ⟨l', q1, q2⟩ := lpU_read l Ms (by simpa using hl) (fun k t' M' a b => hw (k + 1) t' M' (by simpa using a) (by simpa using b)) m (i + M.length) (acc ++ [t']) k2 (by omega) (by simp at h3; omega)
    refine ⟨t' :: l', ⟨by simp only [List.length_cons, q1.1], fun k a b ha hb => ?_⟩, ?_⟩
    · cases k with
      | zero => simp at ha hb; subst ha hb; exact g1
      | succ k => exact q1.2 k a b (by simpa using ha) (by simpa using hb)
    · rw [lpU, if_neg (by omega), g2, if_neg (by simp)]
      dsimp only
      rw [q2, List.append_assoc, Nat.add_assoc]
      rfl
end
end Go.Proofs.YtlkggpjdaaglmaaGreatDoor.am
end
section
namespace Go.Proofs.YtlkggpjdaaglmaaGreatDoor.am
open vt
set_option linter.unusedVariables false
def FitI (R : Nat → Nat → Got) (e : VT → Prop) : List It → List VT → Prop
  | [], qs => qs = []
  | .sgn _ :: l, qs => FitI R e l qs
  | .nam :: l, qs => FitI R e l qs
  | .sub w :: l, qs => ∃ q r, qs = q :: r ∧ (∃ j, (R w j).2.2 = 0 ∧ q = (R w j).1) ∧ FitI R e l r
  | .els :: l, qs => ∃ q r, qs = q :: r ∧ ((∃ j, (R 2 j).2.2 = 0 ∧ q = (R 2 j).1) ∨ e q) ∧ FitI R e l r
section
variable {ts : List Tok}
end
end Go.Proofs.YtlkggpjdaaglmaaGreatDoor.am
end
section
namespace Go.Proofs.YtlkggpjdaaglmaaGreatDoor.am
open vt
set_option linter.unusedVariables false
theorem wz_w {s : ByteArray} {n : Nat} (h : lx.on s 0 = (⟨quo s, 0, s, 0, n⟩, 0)) (h0 : 0 < s.size) (h1 : s.size ≤ 8192) : AllW [kwd s] := alw_one (wz_kwd h h0 h1)
theorem a_int : AllW [kwd wInt] := wz_w (n := 3) (by kernel_rfl) (by decide) (by decide)
theorem a_bool : AllW [kwd wBool] := wz_w (n := 4) (by kernel_rfl) (by decide) (by decide)
theorem a_let : AllW [kwd wLet] := wz_w (n := 3) (by kernel_rfl) (by decide) (by decide)
theorem a_if : AllW [kwd wIf] := wz_w (n := 2) (by kernel_rfl) (by decide) (by decide)
theorem a_else : AllW [kwd wElse] := wz_w (n := 4) (by kernel_rfl) (by decide) (by decide)
theorem a_whil : AllW [kwd wWhil] := wz_w (n := 5) (by kernel_rfl) (by decide) (by decide)
theorem a_for : AllW [kwd wFor] := wz_w (n := 3) (by kernel_rfl) (by decide) (by decide)
theorem a_to : AllW [kwd wTo] := wz_w (n := 2) (by kernel_rfl) (by decide) (by decide)
theorem a_prin : AllW [kwd wPrin] := wz_w (n := 5) (by kernel_rfl) (by decide) (by decide)
theorem a_ret : AllW [kwd wRet] := wz_w (n := 6) (by kernel_rfl) (by decide) (by decide)
theorem a_do : AllW [kwd wDo] := wz_w (n := 2) (by kernel_rfl) (by decide) (by decide)
theorem a_bra : AllW [kwd sBra] := wz_w (n := 1) (by kernel_rfl) (by decide) (by decide)
theorem a_ket : AllW [kwd sKet] := wz_w (n := 1) (by kernel_rfl) (by decide) (by decide)
theorem a_col : AllW [kwd sCol] := wz_w (n := 1) (by kernel_rfl) (by decide) (by decide)
theorem a_is : AllW [kwd sIs] := wz_w (n := 1) (by kernel_rfl) (by decide) (by decide)
theorem a_end : AllW [kwd sEnd] := wz_w (n := 1) (by kernel_rfl) (by decide) (by decide)
theorem a_rec : AllW [kwd wRec] := wz_w (n := 3) (by kernel_rfl) (by decide) (by decide)
theorem a_const : AllW [kwd wConst] := wz_w (n := 5) (by kernel_rfl) (by decide) (by decide)
theorem a_var : AllW [kwd wVar] := wz_w (n := 3) (by kernel_rfl) (by decide) (by decide)
theorem a_pub : AllW [kwd wPub] := wz_w (n := 3) (by kernel_rfl) (by decide) (by decide)
theorem a_fn : AllW [kwd wFn] := wz_w (n := 2) (by kernel_rfl) (by decide) (by decide)
theorem alw_flat : ∀ (Ms : List (List Tok)), (∀ M ∈ Ms, AllW M) → AllW Ms.flatten
  | [], _ => fun y hy => by cases hy
  | M :: r, h => by
    rw [List.flatten_cons]
    exact alw_app.2 ⟨h M (.head _), alw_flat r (fun N hN => h N (.tail _ hN))⟩
def KTX (t : VT) : Prop := ∃ M, KTp t M ∧ AllW M
def KSX (t : VT) : Prop := ∃ M, KS t M ∧ AllW M
def KFX (t : VT) : Prop := ∃ M, KF t M ∧ AllW M
def KDX (t : VT) : Prop := ∃ M, KD t M ∧ AllW M
theorem all_toksR {R : VT → List Tok → Prop} {l : List VT} (h : ∀ d ∈ l, ∃ M, R d M ∧ AllW M) : ∃ Ms : List (List Tok), l.length = Ms.length ∧ (∀ (i : Nat) t M, l[i]? = some t → Ms[i]? = some M → R t M) ∧ ∀ M ∈ Ms, AllW M := by
  induction l with
  | nil => exact ⟨[], rfl, fun i t W h => by simp at h, fun M hM => by cases hM⟩
  | cons d l ih =>
    obtain ⟨M, hM, hA⟩ := h d (.head _)
    obtain ⟨Ms, h1, h2, h3⟩ := ih (fun e he => h e (.tail _ he))
    refine ⟨M :: Ms, by simp [h1], fun i t V a b => ?_, fun N hN => ?_⟩
    · cases i with
      | zero => simp at a b; subst a b; exact hM
      | succ i => simp at a b; exact h2 i t V a b
    · rcases List.mem_cons.1 hN with rfl | hN
      · exact hA
      · exact h3 N hN
section
variable {ts : List Tok}
theorem tyG_kx (hT : TkW ts) : ∀ (n i : Nat), (tyG ts n i).2.2 = 0 → KTX (tyG ts n i).1
  | 0, i, h => by simp [tyG] at h
  | n + 1, i, h => by
    have ih := tyG_kx hT n (i + 3)
    unfold tyG at h ⊢
    split
    · exact ⟨_, .int _ rfl rfl rfl, a_int⟩
    rename_i c; rw [if_neg c] at h
    split
    · exact ⟨_, .bool _ rfl rfl rfl, a_bool⟩
    rename_i c; rw [if_neg c] at h
    split
    · rename_i c; rw [if_pos c] at h
      split
      · rename_i c2; rw [if_pos c2] at h
        split
        · rename_i c; rw [if_pos c] at h
          split
          · rename_i c
            obtain ⟨A, hA, wA⟩ := ih c
            obtain ⟨w1, w2, w3⟩ := (hT _).2 c2
            generalize tyG ts n (i + 3) = y at hA ⊢
            obtain ⟨⟨ax, al⟩, y2⟩ := y
            exact ⟨_, .arr _ ax al A rfl rfl w2 w3 hA, alw_app.2 ⟨alw_one wz_open, alw_app.2 ⟨alw_one w1, alw_app.2 ⟨alw_one wz_shut, wA⟩⟩⟩⟩
          · rename_i c; rw [if_neg c] at h; exact absurd h c
        · rename_i c; rw [if_neg c] at h; exact absurd (show (6 : Int) = 0 from h) (by decide)
      · rename_i c; rw [if_neg c] at h; exact absurd (show (6 : Int) = 0 from h) (by decide)
    · rename_i c; rw [if_neg c] at h
      split
      · rename_i c; exact ⟨_, .rec' _ rfl rfl, alw_one ((hT _).1 c)⟩
      · rename_i c; rw [if_neg c] at h; exact absurd (show (6 : Int) = 0 from h) (by decide)
theorem it_formW (hT : TkW ts) {R : Nat → Nat → Got} {a : Nat} {k n : Int} : ∀ (l : List It) (tz : Nat) (s : ByteArray) (ps : List VT), (itH ts R a k n l tz s ps).2.2 = 0 → ∃ b s' qs, (itH ts R a k n l tz s ps).1 = (mk7 ts a b k n s' (ps ++ qs)).1 ∧ (Wz (nmT s) → Wz (nmT s')) ∧ ((∃ x, x ∈ l ∧ x = .nam) → Wz (nmT s')) ∧ ((¬ ∃ x, x ∈ l ∧ x = .nam) → s' = s) ∧ FitI R (fun q => ∃ j, q = emB ts j) l qs
  | [], tz, s, ps, h => ⟨tz, s, [], by rw [itH, List.append_nil], id, (fun ⟨x, hx, _⟩ => by cases hx), fun _ => rfl, rfl⟩
  | .sgn x :: l, tz, s, ps, h => by
    rw [itG_sgn] at h ⊢
    by_cases c : isK x (nxt ts tz) = true
    · rw [if_pos c] at h ⊢
      obtain ⟨b, s', qs, e1, e2, e3, e4, e5⟩ := it_formW hT l _ _ _ h
      refine ⟨b, s', qs, e1, e2, fun ⟨y, hy, ey⟩ => e3 ?_, fun g => e4 (fun ⟨y, hy, ey⟩ => g ⟨y, .tail _ hy, ey⟩), e5⟩
      subst ey
      rcases List.mem_cons.1 hy with e | hy
      · cases e
      · exact ⟨_, hy, rfl⟩
    · rw [if_neg c] at h; simp [bad7] at h
  | .nam :: l, tz, s, ps, h => by
    rw [itG_nam] at h ⊢
    by_cases c : (nxt ts tz).k = 1
    · rw [if_pos c] at h ⊢
      obtain ⟨b, s', qs, e1, e2, e3, e4, e5⟩ := it_formW hT l _ _ _ h
      have hw := e2 ((hT tz).1 c)
      exact ⟨b, s', qs, e1, fun _ => hw, fun _ => hw, fun g => absurd ⟨_, .head _, rfl⟩ g, e5⟩
    · rw [if_neg c] at h; simp [bad7] at h
  | .sub w :: l, tz, s, ps, h => by
    rw [itG_sub] at h ⊢
    by_cases c : (R w tz).2.2 = 0
    · rw [if_pos c] at h ⊢
      obtain ⟨b, s', qs, e1, e2, e3, e4, e5⟩ := it_formW hT l _ _ _ h
      refine ⟨b, s', (R w tz).1 :: qs, by rw [e1, List.append_assoc]; rfl, e2, fun ⟨y, hy, ey⟩ => e3 ?_, fun g => e4 (fun ⟨y, hy, ey⟩ => g ⟨y, .tail _ hy, ey⟩), _, _, rfl, ⟨tz, c, rfl⟩, e5⟩
      subst ey
      rcases List.mem_cons.1 hy with e | hy
      · cases e
      · exact ⟨_, hy, rfl⟩
    · rw [if_neg c] at h; exact absurd h c
  | .els :: l, tz, s, ps, h => by
    rw [itG_els] at h ⊢
    have fin : ∀ {b s' qs q} {tz' : Nat}, (itH ts R a k n l tz' s (ps ++ [q])).1 = (mk7 ts a b k n s' (ps ++ [q] ++ qs)).1 → (itH ts R a k n l tz' s (ps ++ [q])).1 = (mk7 ts a b k n s' (ps ++ q :: qs)).1 := fun {b s' qs q tz'} e => by rw [e, List.append_assoc]; rfl
    have st : ∀ {s' : ByteArray}, ((∃ x, x ∈ l ∧ x = It.nam) → Wz (nmT s')) → (∃ x, x ∈ It.els :: l ∧ x = It.nam) → Wz (nmT s') := fun {s'} e3 ⟨y, hy, ey⟩ => by
      subst ey
      rcases List.mem_cons.1 hy with e | hy
      · cases e
      · exact e3 ⟨_, hy, rfl⟩
    by_cases c : isK wElse (nxt ts tz) = true
    · rw [if_pos c] at h ⊢
      by_cases c2 : (R 2 (tz + 1)).2.2 = 0
      · rw [if_pos c2] at h ⊢
        obtain ⟨b, s', qs, e1, e2, e3, e4, e5⟩ := it_formW hT l _ _ _ h
        exact ⟨b, s', (R 2 (tz + 1)).1 :: qs, fin e1, e2, st e3, fun g => e4 (fun ⟨y, hy, ey⟩ => g ⟨y, .tail _ hy, ey⟩), _, _, rfl, .inl ⟨tz + 1, c2, rfl⟩, e5⟩
      · rw [if_neg c2] at h; exact absurd h c2
    · rw [if_neg c] at h ⊢
      obtain ⟨b, s', qs, e1, e2, e3, e4, e5⟩ := it_formW hT l _ _ _ h
      exact ⟨b, s', emB ts tz :: qs, fin e1, e2, st e3, fun g => e4 (fun ⟨y, hy, ey⟩ => g ⟨y, .tail _ hy, ey⟩), _, _, rfl, .inr ⟨tz, rfl⟩, e5⟩
def KBX (t : VT) : Prop := t.lab.k = 29 ∧ t.lab.n = 0 ∧ t.lab.s = ⟨#[]⟩ ∧ KSX t
theorem lpB_kx {S : Nat → Got} (hS : ∀ i, (S i).2.2 = 0 → KSX (S i).1) (a : Nat) : ∀ (m tz : Nat) (acc : List VT), (∀ d ∈ acc, KSX d) → (lpB ts S a m tz acc).2.2 = 0 → KBX (lpB ts S a m tz acc).1
  | 0, tz, acc, ha, h => by simp [lpB, bad7] at h
  | m + 1, tz, acc, ha, h => by
    rw [lpB] at h ⊢
    by_cases h2 : isK sKet (nxt ts tz) = true
    · rw [if_pos h2]
      obtain ⟨Ms, h1, h2, h3⟩ := all_toksR (R := KS) ha
      exact ⟨rfl, rfl, rfl, _, .blk _ _ Ms rfl rfl rfl h1 h2, alw_app.2 ⟨a_bra, alw_app.2 ⟨alw_flat Ms h3, a_ket⟩⟩⟩
    · rw [if_neg h2] at h ⊢
      by_cases h3 : (S tz).2.2 = 0
      · rw [if_pos h3] at h ⊢
        refine lpB_kx hS a m _ _ (fun d hd => ?_) h
        rcases List.mem_append.1 hd with hd | hd
        · exact ha d hd
        · rw [List.mem_singleton.1 hd]; exact hS tz h3
      · rw [if_neg h3] at h; exact absurd h h3
theorem blG_kx {S : Nat → Got} (hS : ∀ i, (S i).2.2 = 0 → KSX (S i).1) {i : Nat} (h : (blG ts S i).2.2 = 0) : KBX (blG ts S i).1 := by
  unfold blG at h ⊢
  by_cases c : isK sBra (nxt ts i) = true
  · rw [if_pos c] at h ⊢; exact lpB_kx hS i _ _ _ (fun d hd => by cases hd) h
  · rw [if_neg c] at h; simp [bad7] at h
theorem RR_kx (hT : TkW ts) {S : Nat → Got} (hS : ∀ i, (S i).2.2 = 0 → KSX (S i).1) (w j : Nat) (h : (RR ts S w j).2.2 = 0) : (w = 0 → KX (RR ts S w j).1) ∧ (w = 1 → KTX (RR ts S w j).1) ∧ (w = 2 → KBX (RR ts S w j).1) := by
  unfold RR at h ⊢
  by_cases h0 : w = 0
  · rw [if_pos h0] at h ⊢
    exact ⟨fun _ => pG_kx hT _ _ _ h, fun e => by omega, fun e => by omega⟩
  · rw [if_neg h0] at h ⊢
    by_cases h1 : w = 1
    · rw [if_pos h1] at h ⊢
      exact ⟨fun e => absurd e h0, fun _ => tyG_kx hT _ _ h, fun e => by omega⟩
    · rw [if_neg h1] at h ⊢
      exact ⟨fun e => absurd e h0, fun e => absurd e h1, fun _ => blG_kx hS h⟩
theorem sG_kx (hT : TkW ts) : ∀ (n i : Nat), (sG ts n i).2.2 = 0 → KSX (sG ts n i).1
  | 0, i, h => by simp [sG, bad7] at h
  | n + 1, i, h => by
    have ih := sG_kx hT n
    have R0 := fun j h => (RR_kx hT ih 0 j h).1 rfl
    have R1 := fun j h => (RR_kx hT ih 1 j h).2.1 rfl
    have R2 := fun j h => (RR_kx hT ih 2 j h).2.2 rfl
    rw [sG] at h ⊢
    by_cases c : isK sBra (nxt ts i) = true
    · rw [if_pos c] at h ⊢; exact (blG_kx ih h).2.2.2
    rw [if_neg c] at h ⊢
    obtain ⟨b, s', qs, e1, _, e2, e4, e3⟩ := it_formW hT _ _ _ _ h
    rw [e1]
    clear e1 h
    unfold frmG at e3 e2 e4 ⊢
    split at e3
    · rename_i g; rw [if_pos g] at e2 e4 ⊢
      split at e3
      · rename_i g; rw [if_pos g] at e2 e4 ⊢
        have hs := e2 ⟨.nam, by simp, rfl⟩
        obtain ⟨q, r, rfl, ⟨j, j1, rfl⟩, rfl⟩ := e3
        obtain ⟨A, hA, wA⟩ := R1 j j1
        generalize RR ts (sG ts n) 1 j = y at hA ⊢
        obtain ⟨⟨ax, al⟩, y2⟩ := y
        exact ⟨_, .new _ ax al A rfl rfl hA, alw_app.2 ⟨a_let, alw_app.2 ⟨alw_one hs, alw_app.2 ⟨a_col, alw_app.2 ⟨wA, a_end⟩⟩⟩⟩⟩
      · rename_i g; rw [if_neg g] at e2 e4 ⊢
        have hs := e2 ⟨.nam, by simp, rfl⟩
        obtain ⟨q, r, rfl, ⟨j, j1, rfl⟩, rfl⟩ := e3
        obtain ⟨A, hA, wA⟩ := R0 j j1
        generalize RR ts (sG ts n) 0 j = y at hA ⊢
        obtain ⟨⟨ax, al⟩, y2⟩ := y
        exact ⟨_, .lt _ ax al A rfl rfl hA, alw_app.2 ⟨a_let, alw_app.2 ⟨alw_one hs, alw_app.2 ⟨a_is, alw_app.2 ⟨wA, a_end⟩⟩⟩⟩⟩
    rename_i g; rw [if_neg g] at e2 e4 ⊢
    split at e3
    · rename_i g; rw [if_pos g] at e2 e4 ⊢
      have hs := e4 (by rintro ⟨x, hx, rfl⟩; simp at hx)
      subst hs
      obtain ⟨q, r, rfl, ⟨j, j1, rfl⟩, q2, r2, rfl, ⟨j2, j3, rfl⟩, q3, r3, rfl, h3, rfl⟩ := e3
      obtain ⟨A, hA, wA⟩ := R0 j j1
      obtain ⟨kC, _, _, C, hC, wC⟩ := R2 j2 j3
      generalize RR ts (sG ts n) 0 j = y at hA ⊢
      obtain ⟨⟨ax, al⟩, y2⟩ := y
      generalize RR ts (sG ts n) 2 j2 = z at hC kC ⊢
      obtain ⟨⟨cx, cl⟩, z2⟩ := z
      rcases h3 with ⟨j4, j5, rfl⟩ | ⟨j4, rfl⟩
      · obtain ⟨kE, nE, sE, E, hE, wE⟩ := R2 j4 j5
        generalize RR ts (sG ts n) 2 j4 = v at hE kE nE sE ⊢
        obtain ⟨⟨ex, el⟩, v2⟩ := v
        by_cases hn : el = []
        · subst hn; exact ⟨_, .ifn _ ax cx ex al cl A C rfl rfl rfl hA kC hC kE nE sE, alw_app.2 ⟨a_if, alw_app.2 ⟨wA, wC⟩⟩⟩
        · exact ⟨_, .ife _ ax cx ex al cl el A C E rfl rfl rfl hA kC hC kE hn hE, alw_app.2 ⟨a_if, alw_app.2 ⟨wA, alw_app.2 ⟨wC, alw_app.2 ⟨a_else, wE⟩⟩⟩⟩⟩
      · exact ⟨_, .ifn _ ax cx _ al cl A C rfl rfl rfl hA kC hC rfl rfl rfl, alw_app.2 ⟨a_if, alw_app.2 ⟨wA, wC⟩⟩⟩
    rename_i g; rw [if_neg g] at e2 e4 ⊢
    split at e3
    · rename_i g; rw [if_pos g] at e2 e4 ⊢
      have hs := e4 (by rintro ⟨x, hx, rfl⟩; simp at hx)
      subst hs
      obtain ⟨q, r, rfl, ⟨j, j1, rfl⟩, q2, r2, rfl, ⟨j2, j3, rfl⟩, rfl⟩ := e3
      obtain ⟨A, hA, wA⟩ := R0 j j1
      obtain ⟨kC, _, _, C, hC, wC⟩ := R2 j2 j3
      generalize RR ts (sG ts n) 0 j = y at hA ⊢
      obtain ⟨⟨ax, al⟩, y2⟩ := y
      generalize RR ts (sG ts n) 2 j2 = z at hC kC ⊢
      obtain ⟨⟨cx, cl⟩, z2⟩ := z
      exact ⟨_, .whl _ ax cx al cl A C rfl rfl rfl hA kC hC, alw_app.2 ⟨a_whil, alw_app.2 ⟨wA, wC⟩⟩⟩
    rename_i g; rw [if_neg g] at e2 e4 ⊢
    split at e3
    · rename_i g; rw [if_pos g] at e2 e4 ⊢
      have hs := e2 ⟨.nam, by simp, rfl⟩
      obtain ⟨q, r, rfl, ⟨j, j1, rfl⟩, q1, r1, rfl, ⟨i1, i2, rfl⟩, q2, r2, rfl, ⟨j2, j3, rfl⟩, rfl⟩ := e3
      obtain ⟨A, hA, wA⟩ := R0 j j1
      obtain ⟨B, hB, wB⟩ := R0 i1 i2
      obtain ⟨kC, _, _, C, hC, wC⟩ := R2 j2 j3
      obtain ⟨y, hy⟩ : ∃ y, RR ts (sG ts n) 0 j = y := ⟨_, rfl⟩
      obtain ⟨v, hv⟩ : ∃ y, RR ts (sG ts n) 0 i1 = y := ⟨_, rfl⟩
      rw [hy] at hA ⊢
      rw [hv] at hB ⊢
      obtain ⟨⟨ax, al⟩, y2⟩ := y
      obtain ⟨⟨bx, bl⟩, v2⟩ := v
      generalize RR ts (sG ts n) 2 j2 = z at hC kC ⊢
      obtain ⟨⟨cx, cl⟩, z2⟩ := z
      exact ⟨_, .frr _ ax bx cx al bl cl A B C rfl rfl hA hB kC hC, alw_app.2 ⟨a_for, alw_app.2 ⟨alw_one hs, alw_app.2 ⟨a_is, alw_app.2 ⟨wA, alw_app.2 ⟨a_to, alw_app.2 ⟨wB, wC⟩⟩⟩⟩⟩⟩⟩
    rename_i g; rw [if_neg g] at e2 e4 ⊢
    split at e3
    · rename_i g; rw [if_pos g] at e2 e4 ⊢
      have hs := e4 (by rintro ⟨x, hx, rfl⟩; simp at hx)
      subst hs
      obtain ⟨q, r, rfl, ⟨j, j1, rfl⟩, rfl⟩ := e3
      obtain ⟨A, hA, wA⟩ := R0 j j1
      generalize RR ts (sG ts n) 0 j = y at hA ⊢
      obtain ⟨⟨ax, al⟩, y2⟩ := y
      exact ⟨_, .prn _ ax al A rfl rfl rfl hA, alw_app.2 ⟨a_prin, alw_app.2 ⟨wA, a_end⟩⟩⟩
    rename_i g; rw [if_neg g] at e2 e4 ⊢
    split at e3
    · rename_i g; rw [if_pos g] at e2 e4 ⊢
      have hs := e4 (by rintro ⟨x, hx, rfl⟩; simp at hx)
      subst hs
      obtain ⟨q, r, rfl, ⟨j, j1, rfl⟩, rfl⟩ := e3
      obtain ⟨A, hA, wA⟩ := R0 j j1
      generalize RR ts (sG ts n) 0 j = y at hA ⊢
      obtain ⟨⟨ax, al⟩, y2⟩ := y
      exact ⟨_, .rtn _ ax al A rfl rfl rfl hA, alw_app.2 ⟨a_ret, alw_app.2 ⟨wA, a_end⟩⟩⟩
    rename_i g; rw [if_neg g] at e2 e4 ⊢
    split at e3
    · rename_i g; rw [if_pos g] at e2 e4 ⊢
      have hs := e4 (by rintro ⟨x, hx, rfl⟩; simp at hx)
      subst hs
      obtain ⟨q, r, rfl, ⟨j, j1, rfl⟩, rfl⟩ := e3
      obtain ⟨A, hA, wA⟩ := R0 j j1
      generalize RR ts (sG ts n) 0 j = y at hA ⊢
      obtain ⟨⟨ax, al⟩, y2⟩ := y
      exact ⟨_, .doo _ ax al A rfl rfl rfl hA, alw_app.2 ⟨a_do, alw_app.2 ⟨wA, a_end⟩⟩⟩
    rename_i g; rw [if_neg g] at e2 e4 ⊢
    have hs := e4 (by rintro ⟨x, hx, rfl⟩; simp at hx)
    subst hs
    obtain ⟨q, r, rfl, ⟨j, j1, rfl⟩, q1, r1, rfl, ⟨i1, i2, rfl⟩, rfl⟩ := e3
    obtain ⟨A, hA, wA⟩ := R0 j j1
    obtain ⟨C, hC, wC⟩ := R0 i1 i2
    obtain ⟨y, hy⟩ : ∃ y, RR ts (sG ts n) 0 j = y := ⟨_, rfl⟩
    obtain ⟨v, hv⟩ : ∃ y, RR ts (sG ts n) 0 i1 = y := ⟨_, rfl⟩
    rw [hy] at hA ⊢
    rw [hv] at hC ⊢
    obtain ⟨⟨ax, al⟩, y2⟩ := y
    obtain ⟨⟨bx, bl⟩, v2⟩ := v
    exact ⟨_, .set' _ ax bx al bl A C rfl rfl rfl hA hC, alw_app.2 ⟨wA, alw_app.2 ⟨a_is, alw_app.2 ⟨wC, a_end⟩⟩⟩⟩
end
end Go.Proofs.YtlkggpjdaaglmaaGreatDoor.am
end
section
namespace Go.Proofs.YtlkggpjdaaglmaaGreatDoor.lx
open Go.ChangeShapes Go.WideShapes Go.ChangeAt Go.RowKit
open bs
set_option linter.unusedVariables false
theorem txt_cat (a b : ByteArray) : txt (a ++ b) = txt a ++ txt b := by
  unfold txt
  rw [ByteArray.data_append, Array.toList_append, List.map_append]
theorem any_eq {α : Type} {f g : α → Bool} : ∀ (l : List α), (∀ x ∈ l, f x = g x) → l.any f = l.any g
  | [], _ => rfl
  | x :: l, h => by rw [List.any_cons, List.any_cons, h x (by simp), any_eq l (fun y hy => h y (by simp [hy]))]
structure Pre (a t : ByteArray) : Prop where
  size : a.size < t.size
  b : ∀ i, i < a.size → B t i = B a i
  nl : B t a.size = 10
  ex : ∀ i j, j ≤ a.size → t.extract i j = a.extract i j
theorem pre_of (a r : ByteArray) (hr : 0 < r.size) (h10 : B r 0 = 10) : Pre a (a ++ r) := by
  refine ⟨by rw [ByteArray.size_append]; omega, fun i hi => ?_, ?_, fun i j hj => ?_⟩
  · unfold B
    rw [txt_cat, List.getD_eq_getElem?_getD, List.getD_eq_getElem?_getD, List.getElem?_append_left (by rw [txt_len]; exact hi)]
  · unfold B at h10 ⊢
    rw [txt_cat, List.getD_eq_getElem?_getD, List.getElem?_append_right (by rw [txt_len]; exact Nat.le_refl _), txt_len, Nat.sub_self, ← List.getD_eq_getElem?_getD]
    exact h10
  · apply txt_inj
    rw [txt_cut, txt_cut, txt_cat]
    have hl := txt_len a
    rcases Nat.lt_or_ge i j with h | h
    · rw [List.drop_append_of_le_length (by omega), List.take_append_of_le_length (by rw [List.length_drop]; omega)]
    · rw [show j - i = 0 by omega, List.take_zero, List.take_zero]
section
variable {a t : ByteArray} (h : Pre a t)
include h
theorem pre_run {p : Int → Bool} (hp : p 10 = false) {i : Nat} (hi : i ≤ a.size) : run p t i = run p a i := by
  have hb := run_bd p a i hi
  have hs := h.size
  refine run_eq hb.1 (by omega) (fun j h1 h2 => ?_) (.inr ?_)
  · rw [h.b j (by omega)]; exact run_all h1 h2
  · rcases Nat.lt_or_ge (run p a i) a.size with h1 | h1
    · rw [h.b _ h1]; exact run_stop hi h1
    · rw [show run p a i = a.size by omega, h.nl]; exact hp
theorem pre_at {w : ByteArray} (hw : ∀ j, j < w.size → B w j ≠ 10) {i : Nat} (hi : i < a.size) : at' t i w = at' a i w := by
  have hs := h.size
  rcases Nat.lt_or_ge a.size (i + w.size) with h1 | h1
  · have e1 : at' a i w = false := decide_eq_false (fun x => by omega)
    rw [e1]
    cases e : at' t i w with
    | false => rfl
    | true =>
      have := at_byte e (j := a.size - i) (by omega)
      rw [show i + (a.size - i) = a.size by omega, h.nl] at this
      exact absurd this (hw _ (by omega))
  · unfold at'
    rw [h.ex i (i + w.size) h1]
    have e1 : (i + w.size ≤ t.size) = True := eq_true (by omega)
    have e2 : (i + w.size ≤ a.size) = True := eq_true h1
    simp only [e1, e2]
theorem pre_sg {i : Nat} (hi : i < a.size) : sgN t i = sgN a i := by
  have e1 : twoL.any (fun l => at' t i (mkB l)) = twoL.any (fun l => at' a i (mkB l)) := any_eq _ (fun l hl => by
    refine pre_at h (fun j hj => ?_) hi
    simp only [twoL, List.mem_cons, List.not_mem_nil, or_false] at hl
    rcases hl with rfl | rfl | rfl | rfl | rfl | rfl <;> (rcases j with _ | _ | j <;> first | decide | (exact absurd hj (by rw [mk_size]; simp))))
  unfold sgN
  rw [e1, h.b i hi]
theorem pre_on {i : Nat} (hi : i < a.size) (h0 : (on a i).2 = 0) : on t i = on a i := by
  have hs := h.size
  have hN := pre_run h (p := isN) (by decide) (Nat.le_of_lt hi)
  have hD := pre_run h (p := isD) (by decide) (Nat.le_of_lt hi)
  have bN := run_bd isN a i (Nat.le_of_lt hi)
  have bD := run_bd isD a i (Nat.le_of_lt hi)
  have hb := h.b i hi
  have hto := on_to hi h0
  unfold on at h0 ⊢
  rw [hN, hD, hb, pre_sg h hi, h.ex i (run isN a i) bN.2, h.ex i (run isD a i) bD.2]
  by_cases c1 : isL (B a i) = true
  · rw [if_pos c1, if_pos c1]
  rw [if_neg c1] at h0 ⊢
  rw [if_neg c1]
  by_cases c2 : isD (B a i) = true
  · rw [if_pos c2, if_pos c2]
  rw [if_neg c2] at h0 ⊢
  rw [if_neg c2]
  by_cases c3 : sgN a i = 0
  · rw [if_pos c3, if_pos c3]
  rw [if_neg c3, if_neg c3]
  rw [tk_sign (by simpa using c1) (by simpa using c2) c3] at hto
  obtain ⟨_, j, h4, h5, h6⟩ := hto
  have h4 : ((i + sgN a i : Nat) : Int) = (j : Int) := h4
  rw [h.ex i (i + sgN a i) (by omega)]
theorem pre_nx : ∀ n i, a.size - i ≤ n → i ≤ a.size → (nx a i < a.size → nx t i = nx a i) ∧ (a.size ≤ nx a i → nx t i = nx t a.size) := by
  have hs := h.size
  intro n
  induction n with
  | zero =>
    intro i h1 h2
    have e : i = a.size := by omega
    subst e
    exact ⟨fun h3 => by rw [nx_end (Nat.le_refl _)] at h3; omega, fun _ => rfl⟩
  | succ n ih =>
    intro i h1 h2
    rcases Nat.lt_or_ge i a.size with hi | hi
    · have hb := h.b i hi
      rcases Bool.eq_false_or_eq_true (isB (B a i)) with c | c
      · rw [nx_blank hi c, nx_blank (s := t) (by omega) (by rw [hb]; exact c)]
        exact ih (i + 1) (by omega) (by omega)
      · have hcc := pre_at h (w := cc) (fun j hj => by rcases j with _ | _ | j <;> first | decide | (exact absurd hj (by show ¬ (j + 1 + 1 < 2); omega))) hi
        rcases Bool.eq_false_or_eq_true (at' a i cc) with c2 | c2
        · have hr := cc_run c2
          have hb2 := run_bd isC a i h2
          rw [nx_comment hi c c2, nx_comment (s := t) (by omega) (by rw [hb]; exact c) (by rw [hcc]; exact c2), pre_run h (p := isC) (by decide) h2]
          exact ih (run isC a i) (by omega) hb2.2
        · rw [nx_stop c c2, nx_stop (s := t) (by rw [hb]; exact c) (by rw [hcc]; exact c2)]
          exact ⟨fun _ => rfl, fun h3 => by omega⟩
    · have e : i = a.size := by omega
      subst e
      exact ⟨fun h3 => by rw [nx_end (Nat.le_refl _)] at h3; omega, fun _ => rfl⟩
theorem pre_toks : ∀ n i (L : List Tk), a.size - i ≤ n → i ≤ a.size → (toks a i).2.2 = 0 → ∃ M, (toks a i).1 = M ++ [tkEnd a] ∧ app L (toks t i) = app (L ++ M) (toks t a.size) := by
  have hs := h.size
  intro n
  induction n with
  | zero =>
    intro i L h1 h2 h3
    have e : i = a.size := by omega
    subst e
    refine ⟨[], ?_, by rw [List.append_nil]⟩
    rw [toks, dif_neg (by rw [nx_end (Nat.le_refl _)]; omega)]
    rfl
  | succ n ih =>
    intro i L h1 h2 h3
    have hnx := pre_nx h (a.size - i) i (Nat.le_refl _) h2
    rcases Nat.lt_or_ge (nx a i) a.size with c | c
    · have e := hnx.1 c
      rw [toks, dif_pos ⟨c, h2⟩] at h3
      rw [toks, dif_pos ⟨c, h2⟩]
      by_cases c2 : (on a (nx a i)).2 = 0; rotate_left
      · rw [dif_neg c2] at h3; exact absurd h3 c2
      rw [dif_pos c2] at h3 ⊢
      simp only at h3 ⊢
      have ho := pre_on h c c2
      obtain ⟨_, j, h4, h5, h6⟩ := on_to c c2
      have hle := (nx_le h2).1
      rw [h4] at h3 ⊢
      rw [show ((j : Int)).toNat = j from rfl] at h3 ⊢
      have h3' : (toks a j).2.2 = 0 := by
        by_cases c3 : (toks a j).2.2 = 0
        · exact c3
        · rw [if_neg c3] at h3; exact h3
      rw [if_pos h3']
      obtain ⟨M, m1, m2⟩ := ih j (L ++ [(on a (nx a i)).1]) (by omega) h6 h3'
      refine ⟨(on a (nx a i)).1 :: M, by rw [m1]; rfl, ?_⟩
      rw [app_step (s := t) (by rw [e]; omega) (by omega) (by rw [e, ho]; exact c2), e, ho, h4]
      rw [show ((j : Int)).toNat = j from rfl, m2, List.append_assoc]
      rfl
    · have e := hnx.2 c
      refine ⟨[], ?_, ?_⟩
      · rw [toks, dif_neg (by omega)]; rfl
      · rw [List.append_nil, ← toks_nx (s := t) (i := i) (by omega), e, toks_nx (by omega)]
end
structure Suf (n : Nat) (b t : ByteArray) : Prop where
  size : t.size = n + b.size
  bt : ∀ i, B t (n + i) = B b i
  ex : ∀ i j, t.extract (n + i) (n + j) = b.extract i j
theorem suf_of (l b : ByteArray) : Suf l.size b (l ++ b) := by
  refine ⟨ByteArray.size_append, fun i => ?_, fun i j => ?_⟩
  · unfold B
    rw [txt_cat, List.getD_eq_getElem?_getD, List.getD_eq_getElem?_getD, List.getElem?_append_right (by rw [txt_len]; omega), txt_len, show l.size + i - l.size = i by omega]
  · apply txt_inj
    have hl := txt_len l
    rw [txt_cut, txt_cut, txt_cat, show l.size + i = (txt l).length + i by omega, List.drop_append, show l.size + j - ((txt l).length + i) = j - i by omega]
    rw [List.drop_of_length_le (by omega), List.nil_append, show (txt l).length + i - (txt l).length = i by omega]
def mvE (n : Nat) (x : Tk) : Tk := ⟨x.k, x.n, x.s, x.f + n, x.t + n⟩
section
variable {n : Nat} {b t : ByteArray} (h : Suf n b t)
include h
theorem suf_run {p : Int → Bool} {i : Nat} (hi : i ≤ b.size) : run p t (n + i) = n + run p b i := by
  have hb := run_bd p b i hi
  have hs := h.size
  refine run_eq (by omega) (by omega) (fun j h1 h2 => ?_) ?_
  · rw [show j = n + (j - n) by omega, h.bt]; exact run_all (show i ≤ j - n by omega) (by omega)
  · rcases Nat.lt_or_ge (run p b i) b.size with h1 | h1
    · right; rw [h.bt]; exact run_stop hi h1
    · left; omega
theorem suf_at {w : ByteArray} {i : Nat} : at' t (n + i) w = at' b i w := by
  have hs := h.size
  unfold at'
  rw [Nat.add_assoc, h.ex]
  have e1 : (n + (i + w.size) ≤ t.size) = (i + w.size ≤ b.size) := by rw [hs]; exact propext ⟨fun x => by omega, fun x => by omega⟩
  simp only [e1]
theorem suf_sg {i : Nat} : sgN t (n + i) = sgN b i := by
  have e1 : twoL.any (fun l => at' t (n + i) (mkB l)) = twoL.any (fun l => at' b i (mkB l)) := any_eq _ (fun l _ => suf_at h)
  unfold sgN
  rw [e1, h.bt i]
theorem suf_on {i : Nat} (hi : i < b.size) (h0 : (on b i).2 = 0) : on t (n + i) = (mvE n (on b i).1, 0) := by
  have hN := suf_run h (p := isN) (Nat.le_of_lt hi)
  have hD := suf_run h (p := isD) (Nat.le_of_lt hi)
  have bN := run_bd isN b i (Nat.le_of_lt hi)
  have hb := h.bt i
  unfold on at h0 ⊢
  rw [hN, hD, hb, suf_sg h, h.ex, h.ex, Nat.add_assoc, h.ex, show n + run isN b i - (n + i) = run isN b i - i by omega]
  by_cases c1 : isL (B b i) = true
  · rw [if_pos c1] at h0 ⊢
    rw [if_pos c1]
    by_cases c : 16 < run isN b i - i
    · rw [if_pos c] at h0; exact absurd h0 (by decide)
    rw [if_neg c, if_neg c]
    unfold mvE
    simp only [Prod.mk.injEq, and_true, Tk.mk.injEq, true_and]
    constructor <;> omega
  rw [if_neg c1] at h0 ⊢
  rw [if_neg c1]
  by_cases c2 : isD (B b i) = true
  · rw [if_pos c2] at h0 ⊢
    rw [if_pos c2]
    cases hn : num (b.extract i (run isD b i)) with
    | none => rw [hn] at h0; exact absurd (show (5 : Int) = 0 from h0) (by decide)
    | some v =>
      unfold mvE
      simp only [Prod.mk.injEq, and_true, Tk.mk.injEq, true_and]
      constructor <;> omega
  rw [if_neg c2] at h0 ⊢
  rw [if_neg c2]
  by_cases c3 : sgN b i = 0
  · rw [if_pos c3] at h0; exact absurd h0 (by decide)
  rw [if_neg c3, if_neg c3]
  unfold mvE
  simp only [Prod.mk.injEq, and_true, Tk.mk.injEq, true_and]
  constructor <;> omega
theorem suf_nx : ∀ m i, b.size - i ≤ m → i ≤ b.size → nx t (n + i) = n + nx b i := by
  have hs := h.size
  intro m
  induction m with
  | zero =>
    intro i h1 h2
    rw [nx_end (s := b) (by omega), nx_end (by omega)]
  | succ m ih =>
    intro i h1 h2
    rcases Nat.lt_or_ge i b.size with hi | hi
    · have hb := h.bt i
      rcases Bool.eq_false_or_eq_true (isB (B b i)) with c | c
      · rw [nx_blank hi c, nx_blank (s := t) (by omega) (by rw [hb]; exact c), Nat.add_assoc]
        exact ih (i + 1) (by omega) (by omega)
      · have hcc := suf_at h (w := cc) (i := i)
        rcases Bool.eq_false_or_eq_true (at' b i cc) with c2 | c2
        · have hr := cc_run c2
          have hb2 := run_bd isC b i h2
          rw [nx_comment hi c c2, nx_comment (s := t) (by omega) (by rw [hb]; exact c) (by rw [hcc]; exact c2), suf_run h h2]
          exact ih (run isC b i) (by omega) hb2.2
        · rw [nx_stop c c2, nx_stop (s := t) (by rw [hb]; exact c) (by rw [hcc]; exact c2)]
    · rw [nx_end (s := b) hi, nx_end (by omega)]
theorem suf_toks : ∀ m i (L : List Tk), b.size - i ≤ m → i ≤ b.size → (toks b i).2.2 = 0 → ∃ M, (toks b i).1 = M ++ [tkEnd b] ∧ app L (toks t (n + i)) = (L ++ M.map (mvE n) ++ [tkEnd t], 0, 0) := by
  have hs := h.size
  intro m
  induction m with
  | zero =>
    intro i L h1 h2 h3
    refine ⟨[], ?_, ?_⟩
    · rw [toks, dif_neg (by rw [nx_end (by omega)]; omega)]; rfl
    · rw [app_end (by rw [nx_end (by omega)]; omega), List.map_nil, List.append_nil]
  | succ m ih =>
    intro i L h1 h2 h3
    have e := suf_nx h (b.size - i) i (Nat.le_refl _) h2
    rcases Nat.lt_or_ge (nx b i) b.size with c | c
    · rw [toks, dif_pos ⟨c, h2⟩] at h3
      rw [toks, dif_pos ⟨c, h2⟩]
      by_cases c2 : (on b (nx b i)).2 = 0; rotate_left
      · rw [dif_neg c2] at h3; exact absurd h3 c2
      rw [dif_pos c2] at h3 ⊢
      simp only at h3 ⊢
      have ho := suf_on h c c2
      obtain ⟨_, j, h4, h5, h6⟩ := on_to c c2
      have hle := (nx_le h2).1
      rw [h4] at h3 ⊢
      rw [show ((j : Int)).toNat = j from rfl] at h3 ⊢
      have h3' : (toks b j).2.2 = 0 := by
        by_cases c3 : (toks b j).2.2 = 0
        · exact c3
        · rw [if_neg c3] at h3; exact h3
      rw [if_pos h3']
      obtain ⟨M, m1, m2⟩ := ih j (L ++ [mvE n (on b (nx b i)).1]) (by omega) h6 h3'
      refine ⟨(on b (nx b i)).1 :: M, by rw [m1]; rfl, ?_⟩
      have hj : (mvE n (on b (nx b i)).1).t.toNat = n + j := by
        show ((on b (nx b i)).1.t + (n : Int)).toNat = n + j
        rw [h4]; omega
      rw [app_step (s := t) (by rw [e]; omega) (by omega) (by rw [e, ho]), e, ho]
      rw [hj, m2, List.map_cons, List.append_assoc, List.append_assoc, List.append_assoc]
      rfl
    · refine ⟨[], ?_, ?_⟩
      · rw [toks, dif_neg (by omega)]; rfl
      · rw [app_end (by rw [e]; omega), List.map_nil, List.append_nil]
end
def nlB : ByteArray := ⟨#[10]⟩
theorem toks_cat (a b : ByteArray) (ha : (toks a 0).2.2 = 0) (hb : (toks b 0).2.2 = 0) : ∃ M K, (toks a 0).1 = M ++ [tkEnd a] ∧ (toks b 0).1 = K ++ [tkEnd b] ∧ toks (a ++ nlB ++ b) 0 = (M ++ K.map (mvE (a.size + 1)) ++ [tkEnd (a ++ nlB ++ b)], 0, 0) := by
  have hp : Pre a (a ++ nlB ++ b) := by
    have e : a ++ nlB ++ b = a ++ (nlB ++ b) := ByteArray.append_assoc
    rw [e]
    refine pre_of a (nlB ++ b) (by rw [ByteArray.size_append]; show 0 < 1 + b.size; omega) ?_
    unfold B
    rw [txt_cat]
    rfl
  have hn : (a ++ nlB).size = a.size + 1 := ByteArray.size_append
  have hq := suf_of (a ++ nlB) b
  rw [hn] at hq
  obtain ⟨t, ht⟩ : ∃ t, a ++ nlB ++ b = t := ⟨_, rfl⟩
  rw [ht] at hp hq ⊢
  have hs := hp.size
  obtain ⟨M, m1, m2⟩ := pre_toks hp a.size 0 [] (by omega) (Nat.zero_le _) ha
  obtain ⟨K, k1, k2⟩ := suf_toks hq b.size 0 M (by omega) (Nat.zero_le _) hb
  refine ⟨M, K, m1, k1, ?_⟩
  rw [app_nil, List.nil_append] at m2
  rw [m2]
  have e : toks t a.size = toks t (a.size + 1) := by
    have hz := hq.size
    rw [← toks_nx (s := t) (i := a.size) (by omega), nx_blank hs (by rw [hp.nl]; decide), toks_nx (by omega)]
  rw [e]
  exact k2
end Go.Proofs.YtlkggpjdaaglmaaGreatDoor.lx
end
