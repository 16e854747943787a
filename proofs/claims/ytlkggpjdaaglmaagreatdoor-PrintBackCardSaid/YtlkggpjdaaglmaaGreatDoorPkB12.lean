import Derived.Test.YtlkggpjdaaglmaaGreatDoorPkB11
import Derived.Test.YtlkggpjdaaglmaaGreatDoorPkB3
import Derived.Scope
import Derived.Test.YtlkggpjdaaglmaaGreatDoorProg
import Derived.Test.YtlkggpjdaaglmaaGreatDoorPkB4
section
namespace Go.Proofs.YtlkggpjdaaglmaaGreatDoor.am
open vt
set_option linter.unusedVariables false
section
variable {ts : List Tok}
theorem litG_kx (hT : TkW ts) {i : Nat} (h : (litG ts i).2.2 = 0) : ∃ a M, (litG ts i).1 = .mk a [] ∧ (a.k = 5 ∨ a.k = 6) ∧ KE (.mk a []) M ∧ AllW M := by
  unfold litG at h ⊢
  split
  · rename_i c
    obtain ⟨w1, w2, w3⟩ := (hT _).2 c
    exact ⟨_, _, rfl, .inl rfl, .num _ rfl rfl w2 w3, alw_one w1⟩
  rename_i c; rw [if_neg c] at h
  split
  · exact ⟨_, _, rfl, .inr rfl, .tru _ rfl rfl rfl, alw_one wz_true⟩
  rename_i c; rw [if_neg c] at h
  split
  · exact ⟨_, _, rfl, .inr rfl, .fls _ rfl rfl rfl, alw_one wz_fals⟩
  · rename_i c; rw [if_neg c] at h; simp [bad7] at h
theorem partG_kx (hT : TkW ts) {i : Nat} (h : (partG ts i).2.2 = 0) : KFX (partG ts i).1 := by
  unfold partG at h ⊢
  obtain ⟨b, s', qs, e1, _, e2, _, e3⟩ := it_formW hT _ _ _ _ h
  have hs := e2 ⟨.nam, by simp, rfl⟩
  rw [e1]
  obtain ⟨q, r, rfl, ⟨j, j1, rfl⟩, rfl⟩ := e3
  obtain ⟨A, hA, wA⟩ := tyG_kx hT _ _ j1
  show KFX (.mk _ [(Ty9 ts 1 j).1])
  have hA : KTp (Ty9 ts 1 j).1 A := hA
  generalize Ty9 ts 1 j = y at hA ⊢
  obtain ⟨⟨ax, al⟩, y2⟩ := y
  exact ⟨_, .mk _ ax al A rfl rfl hA, alw_app.2 ⟨alw_one hs, alw_app.2 ⟨a_col, wA⟩⟩⟩
theorem parG_kx (hT : TkW ts) {i : Nat} (h : (parG ts i).2.2 = 0) : ∃ x l, (parG ts i).1 = .mk x l ∧ x.k = 35 ∧ x.n = 0 ∧ x.s = ⟨#[]⟩ ∧ ∀ d ∈ l, KFX d := by
  unfold parG finC at h ⊢
  split
  · rename_i c; rw [if_pos c] at h; exact absurd h c
  · rename_i c
    have c : (cloG ts (partG ts) i true sParO sParS).2.2 = 0 := by simpa using c
    exact ⟨_, _, rfl, rfl, rfl, rfl, cloG_all (Q := KFX) (fun i h => partG_kx hT h) c⟩
theorem lpF_kx (hT : TkW ts) : ∀ (m i : Nat) (acc : List VT), (∀ d ∈ acc, KFX d) → (lpF ts m i acc).2.2 = 0 → (lpF ts m i acc).1 ≠ [] ∧ ∀ d ∈ (lpF ts m i acc).1, KFX d
  | 0, i, acc, ha, h => by simp [lpF] at h
  | m + 1, i, acc, ha, h => by
    unfold lpF at h ⊢
    split
    · rename_i c; exact ⟨c.1, ha⟩
    rename_i c; rw [if_neg c] at h
    split
    · rename_i c; rw [if_pos c] at h; exact absurd h c
    rename_i c; rw [if_neg c] at h
    have c : (partG ts i).2.2 = 0 := by simpa using c
    split
    · rename_i c2; rw [if_pos c2] at h
      refine lpF_kx hT m _ _ (fun d hd => ?_) h
      rcases List.mem_append.1 hd with hd | hd
      · exact ha d hd
      · rw [List.mem_singleton.1 hd]; exact partG_kx hT c
    · rename_i c2; rw [if_neg c2] at h; exact absurd (show (6 : Int) = 0 from h) (by decide)
theorem recG_kx (hT : TkW ts) {i : Nat} (h : (recG ts i).2.2 = 0) : KDX (recG ts i).1 := by
  unfold recG at h ⊢
  split
  · rename_i cn; rw [if_pos cn] at h
    split
    · rename_i c; rw [if_pos c] at h
      unfold finC at h ⊢
      split
      · rename_i c; rw [if_pos c] at h; exact absurd h c
      · rename_i c
        have c : (lpF ts (ts.length + 1) (i + 3) []).2.2 = 0 := by simpa using c
        obtain ⟨hne, hall⟩ := lpF_kx hT _ _ _ (fun d hd => by cases hd) c
        obtain ⟨Ms, h1, h2, h3⟩ := all_toksR (R := KF) hall
        exact ⟨_, .rec' _ _ Ms rfl rfl hne h1 h2, alw_app.2 ⟨a_rec, alw_app.2 ⟨alw_one ((hT _).1 cn), alw_app.2 ⟨a_bra, alw_app.2 ⟨alw_flat _ (fun M hM => by obtain ⟨N, hN, rfl⟩ := List.mem_map.1 hM; exact alw_app.2 ⟨h3 N hN, a_end⟩), a_ket⟩⟩⟩⟩⟩
    · rename_i c; rw [if_neg c] at h; simp [bad7] at h
  · rename_i c; rw [if_neg c] at h; simp [bad7] at h
theorem fn_kx (hT : TkW ts) {a b : Nat} {n : Int} {V : List Tok} (hn : (n = 0 ∧ V = []) ∨ (n = 1 ∧ V = [kwd wPub])) {s : ByteArray} (hs : Wz (nmT s)) {l : List It} (hl : l = [.sub 4, .sgn sCol, .sub 1, .sub 2]) {qs : List VT} (e3 : FitI (R9 ts) (fun q => ∃ j, q = emB ts j) l qs) : KDX (mk7 ts a b 33 n s ([] ++ qs)).1 := by
  subst hl
  obtain ⟨q, r, rfl, ⟨j, j1, rfl⟩, q1, r1, rfl, ⟨i1, i2, rfl⟩, q2, r2, rfl, ⟨j2, j3, rfl⟩, rfl⟩ := e3
  rw [r9_4] at j1 ⊢
  rw [r9_1] at i2 ⊢
  rw [r9_2] at j3 ⊢
  obtain ⟨px, pl, hp, p1, p2, p3, hpl⟩ := parG_kx hT j1
  rw [hp]
  obtain ⟨Ms, w1, w2, w3⟩ := all_toksR (R := KF) hpl
  obtain ⟨A, hA, wA⟩ := tyG_kx hT _ _ i2
  obtain ⟨kC, _, _, C, hC, wC⟩ := blG_kx (sG_kx hT _) j3
  generalize tyG ts (ts.length + 1) i1 = y at hA ⊢
  obtain ⟨⟨ax, al⟩, y2⟩ := y
  generalize blG ts (sG ts (ts.length + 1)) j2 = z at hC kC ⊢
  obtain ⟨⟨cx, cl⟩, z2⟩ := z
  have hV : AllW V := by
    rcases hn with ⟨_, rfl⟩ | ⟨_, rfl⟩
    · intro y hy; cases hy
    · exact a_pub
  exact ⟨_, .fn _ px ax cx pl al cl Ms V A C rfl hn p1 p2 p3 w1 w2 hA kC hC, alw_app.2 ⟨hV, alw_app.2 ⟨a_fn, alw_app.2 ⟨alw_one hs, alw_app.2 ⟨alw_one wz_paro, alw_app.2 ⟨alw_pre Ms w3, alw_app.2 ⟨alw_one wz_pars, alw_app.2 ⟨a_col, alw_app.2 ⟨wA, wC⟩⟩⟩⟩⟩⟩⟩⟩⟩
theorem declG_kx (hT : TkW ts) {i : Nat} (h : (declG ts i).2.2 = 0) : KDX (declG ts i).1 := by
  unfold declG at h ⊢
  split
  · rename_i c; rw [if_pos c] at h
    obtain ⟨b, s', qs, e1, _, e2, _, e3⟩ := it_formW hT _ _ _ _ h
    have hs := e2 ⟨.nam, by simp, rfl⟩
    rw [e1]
    obtain ⟨q, r, rfl, ⟨j, j1, rfl⟩, rfl⟩ := e3
    rw [r9_3] at j1 ⊢
    obtain ⟨ax, A, e, hk, hA, wA⟩ := litG_kx hT j1
    rw [e]
    exact ⟨_, .dfn _ ax A rfl rfl hk hA, alw_app.2 ⟨a_const, alw_app.2 ⟨alw_one hs, alw_app.2 ⟨a_is, alw_app.2 ⟨wA, a_end⟩⟩⟩⟩⟩
  rename_i c; rw [if_neg c] at h
  split
  · rename_i c; rw [if_pos c] at h
    obtain ⟨b, s', qs, e1, _, e2, _, e3⟩ := it_formW hT _ _ _ _ h
    have hs := e2 ⟨.nam, by simp, rfl⟩
    rw [e1]
    obtain ⟨q, r, rfl, ⟨j, j1, rfl⟩, rfl⟩ := e3
    rw [r9_1] at j1 ⊢
    obtain ⟨A, hA, wA⟩ := tyG_kx hT _ _ j1
    generalize tyG ts (ts.length + 1) j = y at hA ⊢
    obtain ⟨⟨ax, al⟩, y2⟩ := y
    exact ⟨_, .var' _ ax al A rfl rfl hA, alw_app.2 ⟨a_var, alw_app.2 ⟨alw_one hs, alw_app.2 ⟨a_col, alw_app.2 ⟨wA, a_end⟩⟩⟩⟩⟩
  rename_i c; rw [if_neg c] at h
  split
  · rename_i c; rw [if_pos c] at h
    obtain ⟨b, s', qs, e1, _, e2, _, e3⟩ := it_formW hT _ _ _ _ h
    have hs := e2 ⟨.nam, by simp, rfl⟩
    rw [e1]
    exact fn_kx hT (.inr ⟨rfl, rfl⟩) hs rfl e3
  rename_i c; rw [if_neg c] at h
  split
  · rename_i c; rw [if_pos c] at h
    obtain ⟨b, s', qs, e1, _, e2, _, e3⟩ := it_formW hT _ _ _ _ h
    have hs := e2 ⟨.nam, by simp, rfl⟩
    rw [e1]
    exact fn_kx hT (.inl ⟨rfl, rfl⟩) hs rfl e3
  rename_i c; rw [if_neg c] at h
  split
  · rename_i c; rw [if_pos c] at h; exact recG_kx hT h
  · rename_i c; rw [if_neg c] at h; simp [bad7] at h
theorem lpU_kx (hT : TkW ts) : ∀ (m i : Nat) (acc : List VT), (∀ d ∈ acc, KDX d) → ∀ d ∈ (lpU ts m i acc).1, KDX d
  | 0, i, acc, h => by rw [lpU]; exact h
  | m + 1, i, acc, h => by
    rw [lpU]
    by_cases h0 : ts.length ≤ i + 1
    · rw [if_pos h0]; exact h
    rw [if_neg h0]
    by_cases h1 : (declG ts i).2.2 ≠ 0
    · rw [if_pos h1]; exact h
    · rw [if_neg h1]
      have h1 : (declG ts i).2.2 = 0 := by simpa using h1
      refine lpU_kx hT m _ _ (fun d hd => ?_)
      rcases List.mem_append.1 hd with hd | hd
      · exact h d hd
      · rw [List.mem_singleton.1 hd]; exact declG_kx hT h1
end
theorem unit_kx (s : ByteArray) {x : Lab} {l : List VT} (h : (unitG s).1 = .mk x l) : ∀ d ∈ l, KDX d := by
  have hz : ∀ {x l}, z0 = .mk x l → ∀ d ∈ l, KDX d := fun {x l} e d hd => by
    obtain ⟨rfl, rfl⟩ := (Tr.mk.injEq _ _ _ _).mp e
    cases hd
  unfold unitG at h
  split at h
  · exact hz h
  rename_i h0
  have h0 : (tokG s).2.2 = 0 := by simpa using h0
  unfold modG at h
  split at h
  · exact hz h
  split at h
  · exact hz h
  split at h
  · exact hz h
  · obtain ⟨rfl, rfl⟩ := (Tr.mk.injEq _ _ _ _).mp h
    exact lpU_kx (tok_tkw h0) _ _ _ (fun d hd => by cases hd)
theorem flat_map (Ms : List (List Tok)) : (Ms.flatten).map spT = pre [] (Ms.map (List.map spT)) := by
  cases Ms with
  | nil => rfl
  | cons a r =>
    unfold pre
    simp only [List.map_cons, List.flatten_cons, List.map_append, List.map_flatten]
    congr 1
    congr 1
    simp
theorem ls_map {R : VT → List Tok → Prop} {Q : VT → List ByteArray → Prop} {l : List VT} {Ms : List (List Tok)} (hl : l.length = Ms.length) (ih : ∀ (i : Nat) t M, l[i]? = some t → Ms[i]? = some M → Q t (M.map spT)) : l.length = (Ms.map (List.map spT)).length ∧ ∀ (i : Nat) t W, l[i]? = some t → (Ms.map (List.map spT))[i]? = some W → Q t W := by
  refine ⟨by rw [List.length_map]; exact hl, fun i t W a b => ?_⟩
  rw [List.getElem?_map] at b
  obtain ⟨M, hM, rfl⟩ := Option.map_eq_some_iff.1 b
  exact ih i t M a hM
theorem kt_wt {t : VT} {M : List Tok} (h : KTp t M) : AllW M → WTp t (M.map spT) := by
  induction h with
  | int x h hn hs => intro _; rw [List.map_cons, List.map_nil, sp_kwd]; exact .int x h
  | bool x h hn hs => intro _; rw [List.map_cons, List.map_nil, sp_kwd]; exact .bool x h
  | rec' x h hn => intro ha; rw [List.map_cons, List.map_nil, sp_nm]; exact .rec' x h (wz_size (ha _ (.head _)))
  | arr x a al A h hs h0 h1 ha ih =>
    intro hw
    obtain ⟨w1, w2⟩ := alw_app.1 hw
    obtain ⟨w2, w3⟩ := alw_app.1 w2
    obtain ⟨w3, w4⟩ := alw_app.1 w3
    simp only [List.map_append, List.map_cons, List.map_nil, sp_kwd, sp_nb]
    exact .arr x a al _ h (by omega) h1 (ih w4)
theorem flat_all {Ms : List (List Tok)} (h : AllW Ms.flatten) : ∀ M ∈ Ms, AllW M := fun M hM y hy => h y (List.mem_flatten.2 ⟨M, hM, hy⟩)
theorem ks_ws {t : VT} {M : List Tok} (h : KS t M) : AllW M → WS t (M.map spT) := by
  induction h with
  | blk x l Ms h hn hs hl hw ih =>
    intro ha
    obtain ⟨w1, w2⟩ := alw_app.1 ha
    obtain ⟨w2, w3⟩ := alw_app.1 w2
    obtain ⟨g1, g2⟩ := ls_map (R := KS) (Q := WS) hl (fun i t M a b => ih i t M a b (flat_all w2 M (List.mem_of_getElem? b)))
    simp only [List.map_append, List.map_cons, List.map_nil, flat_map, sp_kwd]
    exact .blk x l _ h g1 g2
  | lt x a al A h hn ha =>
    intro hw
    obtain ⟨w1, w2⟩ := alw_app.1 hw
    obtain ⟨w2, w3⟩ := alw_app.1 w2
    obtain ⟨w3, w4⟩ := alw_app.1 w3
    simp only [List.map_append, List.map_cons, List.map_nil, sp_kwd, sp_nm]
    exact .lt x a al _ h (wz_size (w2 _ (.head _))) (ke_we ha (alw_app.1 w4).1)
  | new x a al A h hn ha =>
    intro hw
    obtain ⟨w1, w2⟩ := alw_app.1 hw
    obtain ⟨w2, w3⟩ := alw_app.1 w2
    obtain ⟨w3, w4⟩ := alw_app.1 w3
    simp only [List.map_append, List.map_cons, List.map_nil, sp_kwd, sp_nm]
    exact .new x a al _ h (wz_size (w2 _ (.head _))) (kt_wt ha (alw_app.1 w4).1)
  | set' x a c al cl A C h hn hs ha hc =>
    intro hw
    obtain ⟨w1, w2⟩ := alw_app.1 hw
    obtain ⟨w2, w3⟩ := alw_app.1 w2
    simp only [List.map_append, List.map_cons, List.map_nil, sp_kwd]
    exact .set' x a c al cl _ _ h (ke_we ha w1) (ke_we hc (alw_app.1 w3).1)
  | ifn x a c e al cl A C h hn hs ha hk hc e1 e2 e3 ic =>
    intro hw
    obtain ⟨w1, w2⟩ := alw_app.1 hw
    obtain ⟨w2, w3⟩ := alw_app.1 w2
    simp only [List.map_append, List.map_cons, List.map_nil, sp_kwd]
    exact .ifn x a c e al cl _ _ h (ke_we ha w2) hk (ic w3)
  | ife x a c e al cl el A C E h hn hs ha hk hc he hel hE ic iE =>
    intro hw
    obtain ⟨w1, w2⟩ := alw_app.1 hw
    obtain ⟨w2, w3⟩ := alw_app.1 w2
    obtain ⟨w3, w4⟩ := alw_app.1 w3
    obtain ⟨w4, w5⟩ := alw_app.1 w4
    simp only [List.map_append, List.map_cons, List.map_nil, sp_kwd]
    exact .ife x a c e al cl el _ _ _ h (ke_we ha w2) hk (ic w3) he hel (iE w5)
  | whl x a c al cl A C h hn hs ha hk hc ic =>
    intro hw
    obtain ⟨w1, w2⟩ := alw_app.1 hw
    obtain ⟨w2, w3⟩ := alw_app.1 w2
    simp only [List.map_append, List.map_cons, List.map_nil, sp_kwd]
    exact .whl x a c al cl _ _ h (ke_we ha w2) hk (ic w3)
  | frr x a b c al bl cl A B C h hn ha hb hk hc ic =>
    intro hw
    obtain ⟨w1, w2⟩ := alw_app.1 hw
    obtain ⟨w2, w3⟩ := alw_app.1 w2
    obtain ⟨w3, w4⟩ := alw_app.1 w3
    obtain ⟨w4, w5⟩ := alw_app.1 w4
    obtain ⟨w5, w6⟩ := alw_app.1 w5
    obtain ⟨w6, w7⟩ := alw_app.1 w6
    simp only [List.map_append, List.map_cons, List.map_nil, sp_kwd, sp_nm]
    exact .frr x a b c al bl cl _ _ _ h (wz_size (w2 _ (.head _))) (ke_we ha w4) (ke_we hb w6) hk (ic w7)
  | prn x a al A h hn hs ha =>
    intro hw
    obtain ⟨w1, w2⟩ := alw_app.1 hw
    simp only [List.map_append, List.map_cons, List.map_nil, sp_kwd]
    exact .prn x a al _ h (ke_we ha (alw_app.1 w2).1)
  | rtn x a al A h hn hs ha =>
    intro hw
    obtain ⟨w1, w2⟩ := alw_app.1 hw
    simp only [List.map_append, List.map_cons, List.map_nil, sp_kwd]
    exact .rtn x a al _ h (ke_we ha (alw_app.1 w2).1)
  | doo x a al A h hn hs ha =>
    intro hw
    obtain ⟨w1, w2⟩ := alw_app.1 hw
    simp only [List.map_append, List.map_cons, List.map_nil, sp_kwd]
    exact .doo x a al _ h (ke_we ha (alw_app.1 w2).1)
theorem kf_wf {t : VT} {M : List Tok} (h : KF t M) (hw : AllW M) : WF t (M.map spT) := by
  cases h with
  | mk x a al A h hn ha =>
    obtain ⟨w1, w2⟩ := alw_app.1 hw
    simp only [List.map_append, List.map_cons, List.map_nil, sp_kwd, sp_nm]
    exact .mk x a al _ (wz_size (w1 _ (.head _))) (kt_wt ha (alw_app.1 w2).2)
theorem kd_wd {t : VT} {M : List Tok} (h : KD t M) (hw : AllW M) : WD t (M.map spT) := by
  cases h with
  | rec' x l Ms h hn h0 hl hk =>
    obtain ⟨w1, w2⟩ := alw_app.1 hw
    obtain ⟨w2, w3⟩ := alw_app.1 w2
    obtain ⟨w3, w4⟩ := alw_app.1 w3
    obtain ⟨w4, w5⟩ := alw_app.1 w4
    have wf := flat_all w4
    obtain ⟨g1, g2⟩ := ls_map (R := KF) (Q := WF) hl (fun i t M a b => kf_wf (hk i t M a b) (alw_app.1 (wf _ (List.mem_map.2 ⟨M, List.mem_of_getElem? b, rfl⟩))).1)
    have e : (Ms.map (· ++ [kwd sEnd])).map (List.map spT) = (Ms.map (List.map spT)).map (· ++ [sEnd]) := by
      rw [List.map_map, List.map_map]
      congr 1
      funext M
      simp [sp_kwd]
    simp only [List.map_append, List.map_cons, List.map_nil, flat_map, sp_kwd, sp_nm, e]
    exact .rec' x l _ h (wz_size (w2 _ (.head _))) g1 g2
  | dfn x a A h hn hk ha =>
    obtain ⟨w1, w2⟩ := alw_app.1 hw
    obtain ⟨w2, w3⟩ := alw_app.1 w2
    obtain ⟨w3, w4⟩ := alw_app.1 w3
    simp only [List.map_append, List.map_cons, List.map_nil, sp_kwd, sp_nm]
    exact .dfn x a [] _ h (wz_size (w2 _ (.head _))) (ke_we ha (alw_app.1 w4).1)
  | var' x a al A h hn ha =>
    obtain ⟨w1, w2⟩ := alw_app.1 hw
    obtain ⟨w2, w3⟩ := alw_app.1 w2
    obtain ⟨w3, w4⟩ := alw_app.1 w3
    simp only [List.map_append, List.map_cons, List.map_nil, sp_kwd, sp_nm]
    exact .var' x a al _ h (wz_size (w2 _ (.head _))) (kt_wt ha (alw_app.1 w4).1)
  | fn x p r b pl rl bl Ms V R B h hv p1 p2 p3 hl hk hr hk9 hB =>
    obtain ⟨w0, w1⟩ := alw_app.1 hw
    obtain ⟨w1, w2⟩ := alw_app.1 w1
    obtain ⟨w2, w3⟩ := alw_app.1 w2
    obtain ⟨w3, w4⟩ := alw_app.1 w3
    obtain ⟨w4, w5⟩ := alw_app.1 w4
    obtain ⟨w5, w6⟩ := alw_app.1 w5
    obtain ⟨w6, w7⟩ := alw_app.1 w6
    obtain ⟨w7, w8⟩ := alw_app.1 w7
    obtain ⟨g1, g2⟩ := ls_map (R := KF) (Q := WF) hl (fun i t M a b => kf_wf (hk i t M a b) (pre_all w4 M (List.mem_of_getElem? b)))
    rcases hv with ⟨v1, rfl⟩ | ⟨v1, rfl⟩
    · simp only [List.map_append, List.map_cons, List.map_nil, pre_map, sp_kwd, sp_nm, List.nil_append]
      exact .fn x p r b pl rl bl _ _ _ h v1 (wz_size (w2 _ (.head _))) g1 g2 (kt_wt hr w7) hk9 (ks_ws hB w8)
    · simp only [List.map_append, List.map_cons, List.map_nil, pre_map, sp_kwd, sp_nm]
      exact .pub x p r b pl rl bl _ _ _ h v1 (wz_size (w2 _ (.head _))) g1 g2 (kt_wt hr w7) hk9 (ks_ws hB w8)
end Go.Proofs.YtlkggpjdaaglmaaGreatDoor.am
end
section
namespace Go.Proofs.YtlkggpjdaaglmaaGreatDoor.am
open vt
set_option linter.unusedVariables false
theorem sm_lab {a b : VT} (h : Sm a b) : a.lab.k = b.lab.k ∧ a.lab.n = b.lab.n ∧ a.lab.s = b.lab.s := by cases h; exact ⟨by assumption, by assumption, by assumption⟩
theorem sm_leaf {t : VT} {y : Lab} (h : Sm t (.mk y [])) : ∃ x, t = .mk x [] ∧ x.k = y.k ∧ x.n = y.n ∧ x.s = y.s := by
  cases h with
  | mk x y l m hk hn hs hl h => exact ⟨x, by rw [List.length_eq_zero_iff.1 hl], hk, hn, hs⟩
theorem sm_one {t : VT} {y b : Lab} {bl : List VT} (h : Sm t (.mk y [.mk b bl])) : ∃ x a al, t = .mk x [.mk a al] ∧ x.k = y.k ∧ x.n = y.n ∧ x.s = y.s ∧ Sm (.mk a al) (.mk b bl) := by
  cases h with
  | mk x y l m hk hn hs hl h =>
    obtain ⟨⟨a, al⟩, rfl⟩ := one_of hl
    exact ⟨x, a, al, rfl, hk, hn, hs, h 0 _ _ rfl rfl⟩
theorem sm_two {t : VT} {y b d : Lab} {bl dl : List VT} (h : Sm t (.mk y [.mk b bl, .mk d dl])) : ∃ x a al c cl, t = .mk x [.mk a al, .mk c cl] ∧ x.k = y.k ∧ x.n = y.n ∧ x.s = y.s ∧ Sm (.mk a al) (.mk b bl) ∧ Sm (.mk c cl) (.mk d dl) := by
  cases h with
  | mk x y l m hk hn hs hl h =>
    obtain ⟨⟨a, al⟩, ⟨c, cl⟩, rfl⟩ := two_of hl
    exact ⟨x, a, al, c, cl, rfl, hk, hn, hs, h 0 _ _ rfl rfl, h 1 _ _ rfl rfl⟩
theorem sm_three {t : VT} {y b d f : Lab} {bl dl fl : List VT} (h : Sm t (.mk y [.mk b bl, .mk d dl, .mk f fl])) : ∃ x a al c cl e el, t = .mk x [.mk a al, .mk c cl, .mk e el] ∧ x.k = y.k ∧ x.n = y.n ∧ x.s = y.s ∧ Sm (.mk a al) (.mk b bl) ∧ Sm (.mk c cl) (.mk d dl) ∧ Sm (.mk e el) (.mk f fl) := by
  cases h with
  | mk x y l m hk hn hs hl h =>
    obtain ⟨⟨a, al⟩, ⟨c, cl⟩, ⟨e, el⟩, rfl⟩ := three_of hl
    exact ⟨x, a, al, c, cl, e, el, rfl, hk, hn, hs, h 0 _ _ rfl rfl, h 1 _ _ rfl rfl, h 2 _ _ rfl rfl⟩
theorem sm_list {t : VT} {y : Lab} {m : List VT} (h : Sm t (.mk y m)) : ∃ x l, t = .mk x l ∧ x.k = y.k ∧ x.n = y.n ∧ x.s = y.s ∧ SmL l m := by
  cases h with
  | mk x y l m hk hn hs hl h => exact ⟨x, l, rfl, hk, hn, hs, hl, h⟩
theorem sm_tgh {a b : Lab} {al bl : List VT} (h : Sm (.mk a al) (.mk b bl)) : tgh a = tgh b := by
  obtain ⟨h1, h2, _⟩ := sm_lab h
  have h1 : a.k = b.k := h1
  have h2 : a.n = b.n := h2
  unfold tgh; rw [h1, h2]
theorem sm_ws {R : VT → List ByteArray → Prop} {l m : List VT} {Ws : List (List ByteArray)} (hs : SmL l m) (hl : m.length = Ws.length) (ih : ∀ (i : Nat) t W, m[i]? = some t → Ws[i]? = some W → ∀ t', Sm t' t → R t' W) : l.length = Ws.length ∧ ∀ (i : Nat) t W, l[i]? = some t → Ws[i]? = some W → R t W := by
  refine ⟨hs.1.trans hl, fun i t W a b => ?_⟩
  have hi := (List.getElem?_eq_some_iff.1 a).1
  have hm : m[i]? = some (m[i]'(by have := hs.1; omega)) := List.getElem?_eq_getElem _
  exact ih i _ W hm b t (hs.2 i t _ a hm)
theorem sm_we {t : VT} {W : List ByteArray} (h : WE t W) : ∀ t', Sm t' t → WE t' W := by
  induction h with
  | num y h h0 h1 => intro t' g; obtain ⟨x, rfl, k, n, s⟩ := sm_leaf g; rw [← n]; exact .num x (by omega) (by omega) (by omega)
  | tru y h hn => intro t' g; obtain ⟨x, rfl, k, n, s⟩ := sm_leaf g; exact .tru x (by omega) (by omega)
  | fls y h hn => intro t' g; obtain ⟨x, rfl, k, n, s⟩ := sm_leaf g; exact .fls x (by omega) (by omega)
  | read y h => intro t' g; obtain ⟨x, rfl, k, n, s⟩ := sm_leaf g; exact .read x (by omega)
  | nam y h hs => intro t' g; obtain ⟨x, rfl, k, n, s⟩ := sm_leaf g; rw [← s] at hs ⊢; exact .nam x (by omega) hs
  | bin y b d bl dl A C h h1 h2 ha hc ia ic =>
    intro t' g
    obtain ⟨x, a, al, c, cl, rfl, k, n, s, g1, g2⟩ := sm_two g
    rw [← sm_tgh g1, ← sm_tgh g2, ← n]
    exact .bin x a c al cl A C (by omega) (by omega) (by omega) (ia _ g1) (ic _ g2)
  | neg y b bl A h hn ha ia =>
    intro t' g
    obtain ⟨x, a, al, rfl, k, n, s, g1⟩ := sm_one g
    rw [← sm_tgh g1]
    exact .neg x a al A (by omega) (by omega) (ia _ g1)
  | nt y b bl A h hn ha ia =>
    intro t' g
    obtain ⟨x, a, al, rfl, k, n, s, g1⟩ := sm_one g
    rw [← sm_tgh g1]
    exact .nt x a al A (by omega) (by omega) (ia _ g1)
  | idx y b d bl dl A C h ha hc ia ic =>
    intro t' g
    obtain ⟨x, a, al, c, cl, rfl, k, n, s, g1, g2⟩ := sm_two g
    rw [← sm_tgh g1]
    exact .idx x a c al cl A C (by omega) (ia _ g1) (ic _ g2)
  | fld y b bl A h hs ha ia =>
    intro t' g
    obtain ⟨x, a, al, rfl, k, n, s, g1⟩ := sm_one g
    rw [← sm_tgh g1]
    rw [← s] at hs ⊢
    exact .fld x a al A (by omega) hs (ia _ g1)
  | lst y m Ws h hl hw ih =>
    intro t' g
    obtain ⟨x, l, rfl, k, n, s, gl⟩ := sm_list g
    obtain ⟨e1, e2⟩ := sm_ws gl hl ih
    exact .lst x l Ws (by omega) e1 e2
  | mak y m Ws h hs hl hw ih =>
    intro t' g
    obtain ⟨x, l, rfl, k, n, s, gl⟩ := sm_list g
    obtain ⟨e1, e2⟩ := sm_ws gl hl ih
    rw [← s] at hs ⊢
    exact .mak x l Ws (by omega) hs e1 e2
  | cal y m Ws h hs hl hw ih =>
    intro t' g
    obtain ⟨x, l, rfl, k, n, s, gl⟩ := sm_list g
    obtain ⟨e1, e2⟩ := sm_ws gl hl ih
    rw [← s] at hs ⊢
    exact .cal x l Ws (by omega) hs e1 e2
  | ext y m Ws h hs hl hw ih =>
    intro t' g
    obtain ⟨x, l, rfl, k, n, s, gl⟩ := sm_list g
    obtain ⟨e1, e2⟩ := sm_ws gl hl ih
    rw [← s] at hs ⊢
    exact .ext x l Ws (by omega) hs e1 e2
theorem sm_wt {t : VT} {W : List ByteArray} (h : WTp t W) : ∀ t', Sm t' t → WTp t' W := by
  induction h with
  | int y h => intro t' g; obtain ⟨x, rfl, k, n, s⟩ := sm_leaf g; exact .int x (by omega)
  | bool y h => intro t' g; obtain ⟨x, rfl, k, n, s⟩ := sm_leaf g; exact .bool x (by omega)
  | rec' y h hs => intro t' g; obtain ⟨x, rfl, k, n, s⟩ := sm_leaf g; rw [← s] at hs ⊢; exact .rec' x (by omega) hs
  | arr y b bl A h h0 h1 ha ih =>
    intro t' g
    obtain ⟨x, a, al, rfl, k, n, s, g1⟩ := sm_one g
    rw [← n]
    exact .arr x a al A (by omega) (by omega) (by omega) (ih _ g1)
theorem sm_k {a b : Lab} {al bl : List VT} (h : Sm (.mk a al) (.mk b bl)) : a.k = b.k := (sm_lab h).1
theorem sm_wst {t : VT} {W : List ByteArray} (h : WS t W) : ∀ t', Sm t' t → WS t' W := by
  induction h with
  | blk y m Ws h hl hw ih =>
    intro t' g
    obtain ⟨x, l, rfl, k, n, s, gl⟩ := sm_list g
    obtain ⟨e1, e2⟩ := sm_ws gl hl ih
    exact .blk x l Ws (by omega) e1 e2
  | lt y b bl A h hs ha =>
    intro t' g
    obtain ⟨x, a, al, rfl, k, n, s, g1⟩ := sm_one g
    rw [← s] at hs ⊢
    exact .lt x a al A (by omega) hs (sm_we ha _ g1)
  | new y b bl A h hs ha =>
    intro t' g
    obtain ⟨x, a, al, rfl, k, n, s, g1⟩ := sm_one g
    rw [← s] at hs ⊢
    exact .new x a al A (by omega) hs (sm_wt ha _ g1)
  | set' y b d bl dl A C h ha hc =>
    intro t' g
    obtain ⟨x, a, al, c, cl, rfl, k, n, s, g1, g2⟩ := sm_two g
    exact .set' x a c al cl A C (by omega) (sm_we ha _ g1) (sm_we hc _ g2)
  | ifn y b d f bl dl A C h ha hk hc ic =>
    intro t' g
    obtain ⟨x, a, al, c, cl, e, el, rfl, k, n, s, g1, g2, g3⟩ := sm_three g
    obtain ⟨e', he, _⟩ := sm_leaf g3
    obtain ⟨rfl, rfl⟩ := (Tr.mk.injEq _ _ _ _).mp he
    exact .ifn x a c e al cl A C (by omega) (sm_we ha _ g1) (by have := sm_k g2; omega) (ic _ g2)
  | ife y b d f bl dl fl A C E h ha hk hc he hn hE ic iE =>
    intro t' g
    obtain ⟨x, a, al, c, cl, e, el, rfl, k, n, s, g1, g2, g3⟩ := sm_three g
    refine .ife x a c e al cl el A C E (by omega) (sm_we ha _ g1) (by have := sm_k g2; omega) (ic _ g2) (by have := sm_k g3; omega) (fun e0 => hn ?_) (iE _ g3)
    cases g3 with
    | mk _ _ _ _ _ _ _ hl _ => rw [e0] at hl; exact List.length_eq_zero_iff.1 hl.symm
  | whl y b d bl dl A C h ha hk hc ic =>
    intro t' g
    obtain ⟨x, a, al, c, cl, rfl, k, n, s, g1, g2⟩ := sm_two g
    exact .whl x a c al cl A C (by omega) (sm_we ha _ g1) (by have := sm_k g2; omega) (ic _ g2)
  | frr y b d f bl dl fl A B C h hs ha hb hk hc ic =>
    intro t' g
    obtain ⟨x, a, al, c, cl, e, el, rfl, k, n, s, g1, g2, g3⟩ := sm_three g
    rw [← s] at hs ⊢
    exact .frr x a c e al cl el A B C (by omega) hs (sm_we ha _ g1) (sm_we hb _ g2) (by have := sm_k g3; omega) (ic _ g3)
  | prn y b bl A h ha =>
    intro t' g
    obtain ⟨x, a, al, rfl, k, n, s, g1⟩ := sm_one g
    exact .prn x a al A (by omega) (sm_we ha _ g1)
  | rtn y b bl A h ha =>
    intro t' g
    obtain ⟨x, a, al, rfl, k, n, s, g1⟩ := sm_one g
    exact .rtn x a al A (by omega) (sm_we ha _ g1)
  | doo y b bl A h ha =>
    intro t' g
    obtain ⟨x, a, al, rfl, k, n, s, g1⟩ := sm_one g
    exact .doo x a al A (by omega) (sm_we ha _ g1)
theorem sm_wf {t : VT} {W : List ByteArray} (h : WF t W) : ∀ t', Sm t' t → WF t' W := by
  cases h with
  | mk y b bl A hs ha =>
    intro t' g
    obtain ⟨x, a, al, rfl, k, n, s, g1⟩ := sm_one g
    rw [← s] at hs ⊢
    exact .mk x a al A hs (sm_wt ha _ g1)
theorem sm_wd {t : VT} {W : List ByteArray} (h : WD t W) : ∀ t', Sm t' t → WD t' W := by
  cases h with
  | rec' y m Ws h hs hl hw =>
    intro t' g
    obtain ⟨x, l, rfl, k, n, s, gl⟩ := sm_list g
    obtain ⟨e1, e2⟩ := sm_ws gl hl (fun i t W a b => sm_wf (hw i t W a b))
    rw [← s] at hs ⊢
    exact .rec' x l Ws (by omega) hs e1 e2
  | dfn y b bl A h hs ha =>
    intro t' g
    obtain ⟨x, a, al, rfl, k, n, s, g1⟩ := sm_one g
    rw [← s] at hs ⊢
    exact .dfn x a al A (by omega) hs (sm_we ha _ g1)
  | var' y b bl A h hs ha =>
    intro t' g
    obtain ⟨x, a, al, rfl, k, n, s, g1⟩ := sm_one g
    rw [← s] at hs ⊢
    exact .var' x a al A (by omega) hs (sm_wt ha _ g1)
  | fn y p r b pl rl bl Ws R B h hn hs hl hw hr hk hb =>
    intro t' g
    obtain ⟨x, a, al, c, cl, e, el, rfl, k, n, s, g1, g2, g3⟩ := sm_three g
    obtain ⟨_, _, e0, _, _, _, gl⟩ := sm_list g1
    obtain ⟨rfl, rfl⟩ := (Tr.mk.injEq _ _ _ _).mp e0
    obtain ⟨e1, e2⟩ := sm_ws gl hl (fun i t W a b => sm_wf (hw i t W a b))
    rw [← s] at hs ⊢
    exact .fn x a c e al cl el Ws R B (by omega) (by omega) hs e1 e2 (sm_wt hr _ g2) (by have := sm_k g3; omega) (sm_wst hb _ g3)
  | pub y p r b pl rl bl Ws R B h hn hs hl hw hr hk hb =>
    intro t' g
    obtain ⟨x, a, al, c, cl, e, el, rfl, k, n, s, g1, g2, g3⟩ := sm_three g
    obtain ⟨_, _, e0, _, _, _, gl⟩ := sm_list g1
    obtain ⟨rfl, rfl⟩ := (Tr.mk.injEq _ _ _ _).mp e0
    obtain ⟨e1, e2⟩ := sm_ws gl hl (fun i t W a b => sm_wf (hw i t W a b))
    rw [← s] at hs ⊢
    exact .pub x a c e al cl el Ws R B (by omega) (by omega) hs e1 e2 (sm_wt hr _ g2) (by have := sm_k g3; omega) (sm_wst hb _ g3)
theorem sm_dpt {a b : VT} (h : Sm a b) : dpt a = dpt b := by
  induction h with
  | mk x y l m hk hn hs hl h ih =>
    rw [dpt_mk, dpt_mk]
    have e : l.map dpt = m.map dpt := by
      apply List.ext_getElem?
      intro i
      rw [List.getElem?_map, List.getElem?_map]
      by_cases hi : i < l.length
      · have h1 : l[i]? = some (l[i]'hi) := List.getElem?_eq_getElem hi
        have h2 : m[i]? = some (m[i]'(by omega)) := List.getElem?_eq_getElem _
        rw [h1, h2]
        show some _ = some _
        rw [ih i _ _ h1 h2]
      · rw [List.getElem?_eq_none (by omega), List.getElem?_eq_none (by omega)]
    rw [e]
end Go.Proofs.YtlkggpjdaaglmaaGreatDoor.am
end
section
namespace Go.Proofs.YtlkggpjdaaglmaaGreatDoor.am
open vt
set_option linter.unusedVariables false
noncomputable def tx : List (List ByteArray) → ByteArray
  | [] => ⟨#[]⟩
  | W :: r => J W ++ lx.nlB ++ tx r
theorem tx_toks : ∀ (Ms : List (List Tok)), (∀ M ∈ Ms, AllW M) → (tx (Ms.map (List.map spT))).size ≤ 8192 → ∃ L, lx.toks (tx (Ms.map (List.map spT))) 0 = (L ++ [lx.tkEnd (tx (Ms.map (List.map spT)))], 0, 0) ∧ L.length = Ms.flatten.length ∧ ∀ (j : Nat) x y, L[j]? = some x → Ms.flatten[j]? = some y → Lke (tkT x) y
  | [], _, _ => by
    refine ⟨[], ?_, rfl, fun j x y h => by simp at h⟩
    show lx.toks ⟨#[]⟩ 0 = _
    rw [lx.toks, dif_neg (by rintro ⟨h1, h2⟩; exact absurd h1 (by show ¬ _ < 0; omega))]
    rfl
  | M :: Ms, h, h8 => by
    have e : tx ((M :: Ms).map (List.map spT)) = J (M.map spT) ++ lx.nlB ++ tx (Ms.map (List.map spT)) := rfl
    rw [e] at h8 ⊢
    rw [ByteArray.size_append, ByteArray.size_append] at h8
    obtain ⟨K, k1, k2, k3⟩ := tx_toks Ms (fun N hN => h N (.tail _ hN)) (by omega)
    obtain ⟨a1, a2, a3, a4⟩ := J_toks (h M (.head _)) (by omega)
    have ht : ((tokG (J (M.map spT))).1 = (lx.toks (J (M.map spT)) 0).1.map tkT) ∧ (tokG (J (M.map spT))).2 = (lx.toks (J (M.map spT)) 0).2 := by
      unfold tokG lx.tokens
      rw [if_neg (by omega)]
      exact ⟨rfl, rfl⟩
    rw [ht.2] at a1
    obtain ⟨P, Q, p1, p2, p3⟩ := lx.toks_cat (J (M.map spT)) (tx (Ms.map (List.map spT))) a1 (by rw [k1])
    rw [k1] at p2
    have hQ : K = Q := List.append_inj_left' p2 rfl
    subst hQ
    rw [ht.1, p1, List.map_append, List.map_cons, List.map_nil] at a2 a3
    rw [List.length_append, List.length_map, List.length_singleton] at a2
    have hP : P.length = M.length := by omega
    refine ⟨P ++ K.map (lx.mvE ((J (M.map spT)).size + 1)), p3, by rw [List.length_append, List.length_map, hP, k2, List.flatten_cons, List.length_append], fun j x y hx hy => ?_⟩
    rw [List.flatten_cons] at hy
    rcases Nat.lt_or_ge j M.length with hj | hj
    · rw [List.getElem?_append_left (by omega)] at hx
      rw [List.getElem?_append_left hj] at hy
      have := a3 j y hy
      rw [Nat.zero_add] at this
      rw [show nxt (P.map tkT ++ [tkT (lx.tkEnd (J (M.map spT)))]) j = tkT x from nxt_some (by rw [List.getElem?_append_left (by rw [List.length_map]; omega), List.getElem?_map, hx]; rfl)] at this
      exact this
    · rw [List.getElem?_append_right (by omega), List.getElem?_map] at hx
      rw [List.getElem?_append_right hj] at hy
      obtain ⟨z, hz, rfl⟩ := Option.map_eq_some_iff.1 hx
      rw [hP] at hz
      have q := k3 _ z y hz hy
      exact ⟨q.k, q.n, q.s⟩
theorem unit_back {l : List VT} {Ms : List (List Tok)} (hl : l.length = Ms.length) (hw : ∀ (k : Nat) t M, l[k]? = some t → Ms[k]? = some M → KD t M) (ha : ∀ M ∈ Ms, AllW M) (h8 : (tx (Ms.map (List.map spT))).size ≤ 8192) (h64 : l.length ≤ 64) {y : Lab} (hd : dpt (.mk y l) ≤ 64) : ∃ l', SmL l' l ∧ unitG (tx (Ms.map (List.map spT))) = (modT (tx (Ms.map (List.map spT))) l', 0, 0) := by
  obtain ⟨L, e1, e2, e3⟩ := tx_toks Ms ha h8
  generalize tx (Ms.map (List.map spT)) = s at *
  have ht : tokG s = (L.map tkT ++ [enT s], 0, 0) := by
    unfold tokG lx.tokens
    rw [if_neg (by omega), e1]
    simp only [List.map_append, List.map_cons, List.map_nil]
    rfl
  have hne : ∀ M ∈ Ms, M ≠ [] := fun M hM => by
    obtain ⟨i, hi⟩ := List.mem_iff_getElem?.1 hM
    have hlt := (List.getElem?_eq_some_iff.1 hi).1
    exact kd_ne (hw i _ M (List.getElem?_eq_getElem (by omega)) hi)
  have hge := flat_ge Ms hne
  have hlen : (L.map tkT ++ [enT s]).length = Ms.flatten.length + 1 := by rw [List.length_append, List.length_map, e2]; rfl
  have hlk : Lk (L.map tkT ++ [enT s]) 0 Ms.flatten := fun j y hy => by
    have hj := (List.getElem?_eq_some_iff.1 hy).1
    have hx : L[j]? = some (L[j]'(by omega)) := List.getElem?_eq_getElem _
    rw [Nat.zero_add, show nxt (L.map tkT ++ [enT s]) j = tkT (L[j]'(by omega)) from nxt_some (by rw [List.getElem?_append_left (by rw [List.length_map]; omega), List.getElem?_map, hx]; rfl)]
    exact e3 j _ y hx hy
  obtain ⟨l', q1, q2⟩ := lpU_read l Ms hl hw ((L.map tkT ++ [enT s]).length + 1) 0 [] hlk (by omega) (by omega)
  refine ⟨l', q1, ?_⟩
  unfold unitG
  rw [ht, if_neg (by simp)]
  dsimp only
  unfold modG
  rw [q2, List.nil_append, if_neg (by simp), if_neg (by have := q1.1; dsimp only; omega)]
  dsimp only
  have hdp : dpt (modT s l') = dpt (.mk y l) := by
    unfold modT
    rw [dpt_mk, dpt_mk]
    have e : l'.map dpt = l.map dpt := by
      apply List.ext_getElem?
      intro i
      rw [List.getElem?_map, List.getElem?_map]
      by_cases hi : i < l'.length
      · have h1 : l'[i]? = some (l'[i]'hi) := List.getElem?_eq_getElem hi
        have h2 : l[i]? = some (l[i]'(by have := q1.1; omega)) := List.getElem?_eq_getElem _
        rw [h1, h2]
        show some _ = some _
        rw [sm_dpt (q1.2 i _ _ h1 h2)]
      · rw [List.getElem?_eq_none (by omega), List.getElem?_eq_none (by have := q1.1; omega)]
    rw [e]
  rw [if_neg (by rw [hdp]; omega)]
end Go.Proofs.YtlkggpjdaaglmaaGreatDoor.am
end
section
namespace Go.Proofs.YtlkggpjdaaglmaaGreatDoor.am
open Go.ChangeShapes Go.WideShapes Go.ChangeAt Go.RowKit
set_option linter.unusedVariables false
set_option linter.unusedSimpArgs false
theorem cg {P : Program} {N f : Nat} {dst : Option Nat} {first caps : List Cap} {args cargs : List AV} {ch : List AO} {ch' : List (Option AO)} {res : AV} {st : St} {K : St → Prop} (hrow : Row P f cargs ch res ch') (σ : List Nat) (hk : K ((st.wr (wrs (nmap σ ch.length st.nx) 0 ch') 8).put dst (res.ren (nmap σ ch.length st.nx)))) (hfit : fitVs ch.length (fun i => σ.getD i 0) cargs (first.map capV ++ args ++ caps.map capV) := by first | (simp [*]; done) | fail) (ho : covO (hlk st.hp) ch.length (fun i => σ.getD i 0) (ch.map some) σ := by first | (simp [*]; done) | fail) (hnd : σ.Nodup := by first | decide | (simp; done) | fail) (hl : ch'.length ≤ ch.length + 8 := by first | decide | (simp; done) | fail) (hl' : ch.length ≤ ch'.length := by first | decide | (simp; done) | fail) (hd : dok N dst = true := by rfl) :
    CallK P N dst (.v (.c (.fn (.func f) first caps))) args st K := ⟨f, first, caps, cargs, ch, res, ch', σ, rfl, hrow, hfit, ho, hnd, hl, hl', hd, hk⟩
theorem dg {P : Program} {N f : Nat} {dst : Option Nat} {first caps : List Cap} {args cargs : List AV} {ch : List AO} {ch' : List (Option AO)} {res : AV} {st : St} {K : List Nat → List Nat → St → Prop} (hrow : Row P f cargs ch res ch') (σ : List Nat) (hk : K σ ((wrs (nmap σ ch.length st.nx) 0 ch').map (·.1)) ((st.wr (wrs (nmap σ ch.length st.nx) 0 ch') 8).put dst (res.ren (nmap σ ch.length st.nx)))) (hfit : fitVs ch.length (fun i => σ.getD i 0) cargs (first.map capV ++ args ++ caps.map capV) := by first | (simp [*]; done) | fail) (ho : covO (hlk st.hp) ch.length (fun i => σ.getD i 0) (ch.map some) σ := by first | (simp [*]; done) | fail) (hnd : σ.Nodup := by first | decide | (simp; done) | fail) (hl : ch'.length ≤ ch.length + 8 := by first | decide | (simp; done) | fail) (hl' : ch.length ≤ ch'.length := by first | decide | (simp; done) | fail) (hd : dok N dst = true := by rfl) :
    CallD P N dst (.v (.c (.fn (.func f) first caps))) args st K := ⟨f, first, caps, cargs, ch, res, ch', σ, rfl, hrow, hfit, ho, hnd, hl, hl', hd, hk⟩
attribute [simp] wrs nmap AC.ren AT.ren AV.ren AO.ren Cap.ren
def FinG (P : Program) (rs : List ResultVar) (res : AV) (ch' : List (Option AO)) (r : List Nat) (st : St) : Prop :=
  match resV P st rs with
  | some x => fitV ch'.length (fun i => r.getD i 0) res x ∧ covO (hlk st.hp) ch'.length (fun i => r.getD i 0) ch' r
  | none => False
theorem fin_g {P : Program} {nb : Nat} {rs : List ResultVar} {res : AV} {ch' : List (Option AO)} {st : St} (r : List Nat) (h : FinG P rs res ch' r st) (hnd : r.Nodup := by first | decide | (simp; done)) (ht : r.take nb = List.range nb := by rfl) (hl : nb ≤ ch'.length := by first | decide | (simp; done)) : Fin P nb rs res ch' .ret st := by
  unfold FinG at h
  split at h
  · rename_i x hx; exact ⟨x, r, hx, h.1, h.2, hnd, ht, hl⟩
  · exact h.elim
section
variable {X : Ctx} {H : Nat → Option AO} {U : Nat → Prop} {γ : Nat → G} {S : CS} {w : World}
def AC.frz (id : Nat) (p : PV) : AC → AC
  | .arr i es n => if i = id then .pv p else .arr i es n
  | .vw i es lo n => if i = id then (match p with | .sl es' l => if es' = es ∧ lo + n ≤ l.length ∧ (lo = 0 ∨ 0 < n) then .pv (.sl es ((l.drop lo).take n)) else .top | _ => .top) else .vw i es lo n
  | c => c
def AT.frz (id : Nat) (p : PV) : AT → AT
  | .c x => .c (x.frz id p)
  | .agg l => .agg (l.map (AC.frz id p))
def AV.frz (id : Nat) (p : PV) : AV → AV
  | .v x => .v (x.frz id p)
  | .ep i es k o => if i = id then .top else .ep i es k o
  | .tup l => .tup (l.map (AT.frz id p))
  | x => x
def AO.frz (id : Nat) (p : PV) : AO → AO
  | .box l => .box (l.map (AC.frz id p))
  | o => o
theorem RepC.frz {γ' : Nat → G} {id : Nat} {p : PV} {v0 : Value} (hg : γ id = .val v0) (hp : RepP S w v0 p) (hγ : γ' = upd γ id .dead) (hG : GOn γ γ') {v : Value} {c : AC} (h : RepC γ S w v c) : RepC γ' S w v (c.frz id p) := by
  have hm : ∀ {c}, RepC γ S w v c → RepC γ' S w v c := fun h => h.mono hG (fun _ _ h => h) (fun _ _ _ => rfl)
  cases c with
  | arr i es n =>
    show RepC γ' S w v (if i = id then .pv p else .arr i es n)
    by_cases hi : i = id
    · rw [if_pos hi]
      subst hi
      rcases h.2 with k | k
      · rw [hg] at k; cases k
      · rw [hg] at k; cases k; exact hp
    · rw [if_neg hi]; exact hm h
  | vw i es lo n =>
    have h1 := h.one
    by_cases hi : i = id
    · subst hi
      unfold AC.frz
      dsimp only
      rw [if_pos rfl]
      split
      · rename_i es' l
        split
        · rename_i hc
          obtain ⟨rfl, hc, hd⟩ := hc
          obtain ⟨a, m, c, hx, a1, hl1, hl2, ha1, rfl⟩ := h
          rcases hx with k | k
          · rw [hg] at k; cases k
          rw [hg] at k; cases k
          obtain ⟨a2, c2, e2, hs⟩ := sl_inv hp
          injection e2 with q1 q2 q3
          subst q1 q2 q3
          have hln : ((l.drop lo).take n).length = n := by rw [List.length_take, List.length_drop]; omega
          have key := hs.part lo (lo + n) c (by omega) (by omega) (Nat.le_refl _) (by omega)
          have e3 : (l.take (lo + n)).drop lo = (l.drop lo).take n := by rw [List.drop_take]; congr 1; omega
          rw [e3] at key
          have key := sl_intro key
          rw [hln] at key
          rcases hd with hd | hd
          · subst hd
            have hz0 : ∀ z : Addr, z.add 0 = z := fun z => by unfold Addr.add; split <;> simp_all
            have e4 : a1 = a := by rw [ha1 (.inl rfl)]; cases a <;> simp [hz0]
            rw [e4]
            have e5 : (if c = 0 then a else a.map (·.add (0 * es'))) = a := by
              split
              · rfl
              · cases a <;> simp [hz0]
            rw [e5] at key
            exact key
          · rw [ha1 (.inr hd)]
            rw [if_neg (by omega)] at key
            exact key
        · exact h1
      · exact h1
    · unfold AC.frz
      dsimp only
      rw [if_neg hi]; exact hm h
  | _ => exact hm h
theorem RepCs.frz {γ' : Nat → G} {id : Nat} {p : PV} {v0 : Value} (hg : γ id = .val v0) (hp : RepP S w v0 p) (hγ : γ' = upd γ id .dead) (hG : GOn γ γ') {vs : List Value} {l : List AC} (h : RepCs γ S w vs l) : RepCs γ' S w vs (l.map (AC.frz id p)) := by
  refine ⟨by rw [List.length_map]; exact h.1, fun i c hi => ?_⟩
  obtain ⟨x, hx, rfl⟩ := map_at hi
  obtain ⟨v, h1, h2⟩ := h.2 i x hx
  exact ⟨v, h1, h2.frz hg hp hγ hG⟩
theorem RepT.frz {γ' : Nat → G} {id : Nat} {p : PV} {v0 : Value} (hg : γ id = .val v0) (hp : RepP S w v0 p) (hγ : γ' = upd γ id .dead) (hG : GOn γ γ') {v : Value} {c : AT} (h : RepT γ S w v c) : RepT γ' S w v (c.frz id p) := by
  cases c with
  | c x => exact RepC.frz hg hp hγ hG h
  | agg l => obtain ⟨cs, h1, h2⟩ := h; exact ⟨cs, h1, h2.frz hg hp hγ hG⟩
theorem RepV.frz {γ' : Nat → G} {id : Nat} {p : PV} {v0 : Value} (hg : γ id = .val v0) (hp : RepP S w v0 p) (hγ : γ' = upd γ id .dead) (hG : GOn γ γ') {v : Value} {c : AV} (h : RepV γ S w v c) : RepV γ' S w v (c.frz id p) := by
  cases c with
  | v x => exact RepT.frz hg hp hγ hG h
  | tup l =>
    obtain ⟨cs, h1, h2⟩ := h
    refine ⟨cs, h1, by rw [List.length_map]; exact h2.1, fun i c hi => ?_⟩
    obtain ⟨x, hx, rfl⟩ := map_at hi
    obtain ⟨v, h3, h4⟩ := h2.2 i x hx
    exact ⟨v, h3, h4.frz hg hp hγ hG⟩
  | ep i es k o =>
    show RepV γ' S w v (if i = id then .top else .ep i es k o)
    by_cases hi : i = id
    · rw [if_pos hi]; trivial
    · rw [if_neg hi]; exact RepV.mono hG (fun _ _ h => h) (fun _ _ _ => rfl) h
  | rp c o => exact h
  | top => trivial
theorem Mem.freeze (h : Mem X H U γ S w) {id : Nat} {e : TypeId} {es : Nat} {l : List (List PV)} (hH : H id = some (.arr e es l)) :
    ∃ (S' : CS) (v0 : Value), (∀ b o, S b o → S' b o) ∧ γ id = .val v0 ∧ RepP S' w v0 (.sl es l) ∧ Mem X (fun x => if x = id then none else (H x).map (AO.frz id (.sl es l))) U (upd γ id .dead) S' w := by
  obtain ⟨v0, xs, g1, g2, g3, g5, g4⟩ := h.obj _ _ hH
  have hG := GOn.kill g1
  have hown : ∀ b, v0.ownBlock = some b → (γ id).bk = some b := fun b hb => by rw [g1]; exact hb
  refine ⟨fun b o => S b o ∨ (v0.ownBlock = some b ∧ o < l.length * es), v0, fun _ _ h => .inl h, g1, ?_, ?_⟩
  · rcases g2.2 with ⟨k1, k2⟩ | ⟨g, cap, cur, k1, _, k3, k4, k5, k6, k7⟩
    · subst k1
      have : l = [] := List.length_eq_zero_iff.1 k2
      subst this
      exact .emp none 0 es (by decide) (fun _ => rfl)
    · subst k1
      refine sl_of_block (xs := xs) g5 ((arr_ps g2 g3 g5).mono (fun _ _ h => .inl h) (fun _ _ _ => rfl)) k4 (by unfold maxLen at k5; omega) (fun k u hk => ?_)
      have hk1 : k < l.length * es := by have := (List.getElem?_eq_some_iff.1 hk).1; rw [g2.1] at this; exact this
      refine ⟨.inr ⟨rfl, hk1⟩, ?_⟩
      rw [cell_row k3, ← hk, ← k7, List.getElem?_take, if_pos hk1]
  · have hmk := h.kill g1
    have hobk : ∀ b o, (S b o ∨ (v0.ownBlock = some b ∧ o < l.length * es)) → ∀ x, x ≠ id → (γ x).bk = some b → S b o := fun b o hs x hx hb => hs.elim (fun h => h) (fun hs => (h.dist x id hx b hb (hown b hs.1)).elim)
    have hvS : RepP (fun b o => S b o ∨ (v0.ownBlock = some b ∧ o < l.length * es)) w v0 (.sl es l) := by
      rcases g2.2 with ⟨k1, k2⟩ | ⟨g, cap, cur, k1, _, k3, k4, k5, k6, k7⟩
      · subst k1
        have : l = [] := List.length_eq_zero_iff.1 k2
        subst this
        exact .emp none 0 es (by decide) (fun _ => rfl)
      · subst k1
        refine sl_of_block (xs := xs) g5 ((arr_ps g2 g3 g5).mono (fun _ _ h => .inl h) (fun _ _ _ => rfl)) k4 (by unfold maxLen at k5; omega) (fun k u hk => ?_)
        have hk1 : k < l.length * es := by have := (List.getElem?_eq_some_iff.1 hk).1; rw [g2.1] at this; exact this
        refine ⟨.inr ⟨rfl, hk1⟩, ?_⟩
        rw [cell_row k3, ← hk, ← k7, List.getElem?_take, if_pos hk1]
    refine ⟨hmk.os, hmk.tape, hmk.output, hmk.size, hmk.frame, fun b o hs => ⟨.inl (h.keep b o hs).1, (h.keep b o hs).2⟩, fun b o hs => ?_, fun b o hs => ?_, hmk.mono, hmk.un, fun x hx => ?_, fun x o hx => ?_, hmk.dist, hmk.live⟩
    · rcases hs with hs | ⟨hs, _⟩
      · exact h.fresh b o hs
      · exact .inr (h.live id b (hown b hs)).2
    · rcases hs with hs | ⟨hs, _⟩
      · exact h.inb b o hs
      · exact (h.live id b (hown b hs)).1
    · by_cases hxi : x = id
      · subst hxi; exact .inr (upd_same _ _ _)
      · rw [if_neg hxi] at hx
        rw [upd_ne _ _ hxi]
        exact h.off x (Option.map_eq_none_iff.1 hx)
    · by_cases hxi : x = id
      · rw [if_pos hxi] at hx; cases hx
      · rw [if_neg hxi] at hx
        obtain ⟨o0, ho0, rfl⟩ := Option.map_eq_some_iff.1 hx
        have hO : Obj' (upd γ id .dead) (fun b o => S b o ∨ (v0.ownBlock = some b ∧ o < l.length * es)) w x o0 := Obj'.on (h.obj x o0 ho0) (upd_ne _ _ hxi) hG (fun _ _ h => .inl h) (fun _ _ _ => rfl) (fun b hb => ⟨rfl, fun o hs => hobk b o hs x hxi hb⟩)
        cases o0 with
        | box cells =>
          obtain ⟨b, cs, t, k1, k2, k3, k4⟩ := h.obj x _ ho0
          refine ⟨b, cs, t, by rw [upd_ne _ _ hxi]; exact k1, k2, ?_, fun o hs => k4 o (hobk b o hs x hxi (by rw [k1]; rfl))⟩
          exact (k3.mono (GOn.refl _) (fun _ _ h => .inl h) (fun _ _ _ => rfl)).frz g1 hvS rfl hG
        | _ => exact hO
end
section
variable {P : Program} {N nb : Nat} {st : St} {Q : Exit → St → Prop}
def St.frz (st : St) (id es : Nat) (l : List (List PV)) : St := ⟨st.tm.map fun p => (p.1, p.2.frz id (.sl es l)), st.hp.map fun p => (p.1, if p.1 = id then none else p.2.map (AO.frz id (.sl es l))), st.nx⟩
end
end Go.Proofs.YtlkggpjdaaglmaaGreatDoor.am
end
section
namespace Go.Proofs.YtlkggpjdaaglmaaGreatDoor.am
open Go.ChangeShapes Go.WideShapes Go.ChangeAt Go.RowKit
set_option linter.unusedVariables false
end Go.Proofs.YtlkggpjdaaglmaaGreatDoor.am
end
section
namespace Go.Proofs.YtlkggpjdaaglmaaGreatDoor.am
open Go.ChangeShapes Go.WideShapes Go.ChangeAt Go.RowKit
set_option linter.unusedVariables false
set_option linter.unusedSimpArgs false
variable {P : Program} {N nb : Nat} {st : St} {Q : Exit → St → Prop}
end Go.Proofs.YtlkggpjdaaglmaaGreatDoor.am
end
section
namespace Go.Proofs.YtlkggpjdaaglmaaGreatDoor.am
open Go.ChangeShapes Go.WideShapes Go.ChangeAt Go.RowKit
set_option linter.unusedVariables false
variable {P : Program} {N nb : Nat} {st : St} {Q : Exit → St → Prop}
def St.mvr (st : St) (id bx j : Nat) (cells : List AC) (e : TypeId) (es es' : Nat) (l : List (List PV)) : St := ⟨st.tm, (bx, some (.box (cells.set j (.row st.nx es l)))) :: (st.nx, some (.row e es')) :: (id, none) :: st.hp, st.nx + 1⟩
theorem aw_mvr {c : Code} (id bx j : Nat) (cells : List AC) (e : TypeId) (es es' : Nat) (l : List (List PV)) (hid : hlk st.hp id = some (.row e es')) (hbx : hlk st.hp bx = some (.box cells)) (hj : cells[j]? = some (.row id es l)) (hl1 : id < st.nx) (hl2 : bx < st.nx) (h : AW P N nb c (st.mvr id bx j cells e es es' l) Q) : AW P N nb c st Q := by
  refine aw_cov (fun X hX a w hr => ?_) h
  obtain ⟨h1, h2, γ, S, hm, ha⟩ := hr
  obtain ⟨v, n, xs, g1, g2, g3⟩ := hm.obj _ _ hid
  obtain ⟨m, hG⟩ := hm.app (nm := st.nx) (Nat.le_refl _) g1 rfl (w' := w) rfl rfl rfl rfl (fun _ _ => rfl) (fun _ _ _ => rfl) (fun _ => False) (.row e es')
    ⟨v, n, xs, upd_same _ _ _, g2, fun b hb o ho hs => g3 b hb o ho (hs.elim (fun h => h) (fun h => h.2.elim))⟩
  refine ⟨h1, h2, upd (upd γ id .dead) st.nx (.val v), (fun b k => S b k ∨ (v.ownBlock = some b ∧ False)), ?_, fun s => (ha s).mono hG (fun _ _ h => Or.inl h) (fun _ _ _ => rfl)⟩
  show Mem X (hlk ((bx, some (.box (cells.set j (.row st.nx es l)))) :: (st.nx, some (.row e es')) :: (id, none) :: st.hp)) _ _ _ _
  rw [hlk_cons, hlk_cons, hlk_cons]
  have hne : bx ≠ st.nx := by omega
  have hbi : bx ≠ id := fun e => by rw [e, hid] at hbx; cases hbx
  have hbx' : upd (upd (hlk st.hp) id none) st.nx (some (.row e es')) bx = some (.box cells) := by rw [upd_ne _ _ hne, upd_ne _ _ hbi]; exact hbx
  obtain ⟨b0, cs0, t0, q1, q2, q3, q4⟩ := hm.obj _ _ hbx
  refine { m with un := fun x hx => m.un x ⟨by have : st.nx + 1 ≤ x := hx
                                               show st.nx ≤ x
                                               omega, by have : st.nx + 1 ≤ x := hx
                                                         omega⟩, off := fun x hx => ?_, obj := fun x o hx => ?_ }
  · by_cases hxi : x = bx
    · subst hxi; rw [upd_same] at hx; cases hx
    · rw [upd_ne _ _ hxi] at hx; exact m.off x hx
  · by_cases hxi : x = bx
    · subst hxi
      rw [upd_same] at hx; cases hx
      obtain ⟨b, cs, t, k1, k2, k3, k4⟩ := m.obj x _ hbx'
      have hcs : cs = cs0 := by
        have : (upd (upd γ id .dead) st.nx (.val v)) x = γ x := by rw [upd_ne _ _ hne, upd_ne _ _ hbi]
        rw [this, q1] at k1
        cases k1
        rw [q2] at k2
        cases k2
        rfl
      refine ⟨b, cs, t, k1, k2, ⟨by rw [List.length_set]; exact k3.1, fun i ac hi => ?_⟩, k4⟩
      rw [List.getElem?_set] at hi
      split at hi
      · rename_i hij
        split at hi
        · cases hi
          subst hij
          obtain ⟨u, r1, r2⟩ := q3.2 j _ hj
          obtain ⟨r3, r4⟩ := r2
          have hu : u = v := by
            rcases r4 with r4 | r4
            · rw [g1] at r4; cases r4
            · rw [g1] at r4; cases r4; rfl
          subst hu
          exact ⟨u, by rw [hcs]; exact r1, r3.mono (fun _ _ h => .inl h) (fun _ _ _ => rfl), .inr (upd_same _ _ _)⟩
        · cases hi
      · exact k3.2 i ac hi
    · rw [upd_ne _ _ hxi] at hx; exact m.obj x o hx
abbrev bxW (i : Nat) (l : List (List PV)) : AO := .box [.row i 1 l]
theorem cgw {f : Nat} {dst : Option Nat} {first caps : List Cap} {args cargs : List AV} {l l0 : List (List PV)} {e : TypeId} {LL : List (Nat × Array Value)} {ch' : List (Option AO)} {res : AV} {K : St → Prop} (hrow : Row P f cargs [bxW 1 l, .row e 1, .lib LL] res ch') (b g : Nat) {i : Nat} (hb : hlk st.hp b = some (bxW i l0)) (hk : K ((st.wr (wrs (nmap [b, i, g] 3 st.nx) 0 ch') 8).put dst (res.ren (nmap [b, i, g] 3 st.nx)))) (hfit : fitVs 3 (fun k => [b, i, g].getD k 0) cargs (first.map capV ++ args ++ caps.map capV) := by first | (simp [*]; done) | fail) (ho : covO (hlk st.hp) 3 (fun k => [b, i, g].getD k 0) ([bxW 1 l, .row e 1, .lib LL].map some) [b, i, g] := by first | (simp [*]; done) | fail) (hnd : [b, i, g].Nodup := by first | decide | (simp; done) | fail) (hl : ch'.length ≤ 11 := by first | decide | (simp; done) | fail) (hl' : 3 ≤ ch'.length := by first | decide | (simp; done) | fail) (hd : dok N dst = true := by rfl) :
    CallK P N dst (.v (.c (.fn (.func f) first caps))) args st K := cg hrow [b, i, g] hk hfit ho hnd hl hl' hd
theorem dgw {f : Nat} {dst : Option Nat} {first caps : List Cap} {args cargs : List AV} {l l0 : List (List PV)} {e : TypeId} {LL : List (Nat × Array Value)} {ch' : List (Option AO)} {res : AV} {K : List Nat → List Nat → St → Prop} (hrow : Row P f cargs [bxW 1 l, .row e 1, .lib LL] res ch') (b g : Nat) {i : Nat} (hb : hlk st.hp b = some (bxW i l0)) (hk : K [b, i, g] ((wrs (nmap [b, i, g] 3 st.nx) 0 ch').map (·.1)) ((st.wr (wrs (nmap [b, i, g] 3 st.nx) 0 ch') 8).put dst (res.ren (nmap [b, i, g] 3 st.nx)))) (hfit : fitVs 3 (fun k => [b, i, g].getD k 0) cargs (first.map capV ++ args ++ caps.map capV) := by first | (simp [*]; done) | fail) (ho : covO (hlk st.hp) 3 (fun k => [b, i, g].getD k 0) ([bxW 1 l, .row e 1, .lib LL].map some) [b, i, g] := by first | (simp [*]; done) | fail) (hnd : [b, i, g].Nodup := by first | decide | (simp; done) | fail) (hl : ch'.length ≤ 11 := by first | decide | (simp; done) | fail) (hl' : 3 ≤ ch'.length := by first | decide | (simp; done) | fail) (hd : dok N dst = true := by rfl) :
    CallD P N dst (.v (.c (.fn (.func f) first caps))) args st K := dg hrow [b, i, g] hk hfit ho hnd hl hl' hd
theorem fin_gw {rs : List ResultVar} {res : AV} {ch' : List (Option AO)} {l0 : List (List PV)} {i : Nat} (hb : hlk st.hp 0 = some (bxW i l0)) (h : FinG P rs res ch' [0, 1, 2, i] st) (hnd : [0, 1, 2, i].Nodup := by first | decide | (simp; done)) (ht : [0, 1, 2, i].take nb = List.range nb := by rfl) (hl : nb ≤ ch'.length := by first | decide | (simp; done)) : Fin P nb rs res ch' .ret st := fin_g [0, 1, 2, i] h hnd ht hl
theorem cov_w {tm : List (Nat × AV)} {os : List (Option AO)} {l0 : List (List PV)} {i : Nat} (hw : hlk st.hp 0 = some (bxW i l0)) (ht : covT st.tm os.length (fun k => [0, 1, 2, i].getD k 0) tm) (hc : covO (hlk st.hp) os.length (fun k => [0, 1, 2, i].getD k 0) os [0, 1, 2, i]) (hnd : [0, 1, 2, i].Nodup) (hb : [0, 1, 2, i].take nb = List.range nb) (hnb : nb ≤ os.length) : Cov N nb st (mkSt tm os) := cov_intro [0, 1, 2, i] ht hc hnd hb hnb
end Go.Proofs.YtlkggpjdaaglmaaGreatDoor.am
end
section
namespace Go.Proofs.YtlkggpjdaaglmaaGreatDoor.am
open vt
theorem td_term : td Tryz.prog 25 = some ⟨true, 6, 72, [.lit (.int .i64 0), .lit (.int .i64 0), .lit (.string ⟨#[]⟩), .nilS, .lit (.int .i64 0), .lit (.int .i64 0)], [(0, 1, false), (1, 1, false), (2, 1, false), (3, 1, false), (4, 1, false), (5, 1, false)], .struct⟩ := Eq.trans (by kernel_rfl) (Eq.refl _)
theorem td_terms : td Tryz.prog 23 = some ⟨false, 1, 24, [.nilS], [], (.slice 25)⟩ := Eq.trans (by kernel_rfl) (Eq.refl _)
theorem td_int : td Tryz.prog 3 = some ⟨false, 1, 8, [.lit (.int .i64 0)], [], (.int .i64)⟩ := Eq.trans (by kernel_rfl) (Eq.refl _)
theorem td_int64 : td Tryz.prog 2 = some ⟨false, 1, 8, [.lit (.int .i64 0)], [], (.int .i64)⟩ := Eq.trans (by kernel_rfl) (Eq.refl _)
theorem td_bool : td Tryz.prog 4 = some ⟨false, 1, 1, [.lit (.bool false)], [], .bool⟩ := Eq.trans (by kernel_rfl) (Eq.refl _)
theorem td_string : td Tryz.prog 9 = some ⟨false, 1, 16, [.lit (.string ⟨#[]⟩)], [], .string⟩ := Eq.trans (by kernel_rfl) (Eq.refl _)
attribute [simp] td_term td_terms td_int td_int64 td_bool td_string
theorem mixd : Tryz.prog.follows .mixedOrders = true := by kernel_rfl
end Go.Proofs.YtlkggpjdaaglmaaGreatDoor.am
end
section
namespace Go.Proofs.YtlkggpjdaaglmaaGreatDoor.am
open Go.ChangeShapes Go.WideShapes Go.ChangeAt Go.RowKit
open vt
set_option linter.unusedVariables false
set_option linter.unusedSimpArgs false
theorem td_tok : td Tryz.prog 39 = some ⟨true, 5, 48, [.lit (.int .i64 0), .lit (.int .i64 0), .lit (.string ⟨#[]⟩), .lit (.int .i64 0), .lit (.int .i64 0)], [(0, 1, false), (1, 1, false), (2, 1, false), (3, 1, false), (4, 1, false)], .struct⟩ := Eq.trans (by kernel_rfl) (Eq.refl _)
theorem td_toks : td Tryz.prog 32 = some ⟨false, 1, 24, [.nilS], [], (.slice 39)⟩ := Eq.trans (by kernel_rfl) (Eq.refl _)
theorem td_errno : td Tryz.prog 26 = some ⟨false, 1, 8, [.lit (.int .i64 0)], [], (.int .i64)⟩ := Eq.trans (by kernel_rfl) (Eq.refl _)
attribute [simp] td_tok td_toks td_errno
attribute [simp] kc
theorem tyG_int {ts : List Tok} {n i : Nat} (h : isK wInt (nxt ts i) = true) : tyG ts (n + 1) i = (.mk ⟨1, 0, ⟨#[]⟩, frT ts i, toT ts i⟩ [], i + 1, 0) := by rw [tyG, if_pos h]
theorem tyG_bool {ts : List Tok} {n i : Nat} (h1 : isK wInt (nxt ts i) = false) (h : isK wBool (nxt ts i) = true) : tyG ts (n + 1) i = (.mk ⟨2, 0, ⟨#[]⟩, frT ts i, toT ts i⟩ [], i + 1, 0) := by rw [tyG, if_neg (by simp [h1]), if_pos h]
theorem tyG_arr {ts : List Tok} {n i : Nat} (h1 : isK wInt (nxt ts i) = false) (h2 : isK wBool (nxt ts i) = false) (h : isK sOpen (nxt ts i) = true) : tyG ts (n + 1) i =
      if (nxt ts (i + 1)).k = 2 then
        if isK sShut (nxt ts (i + 2)) = true then
          if (tyG ts n (i + 3)).2.2 = 0 then (.mk ⟨3, (nxt ts (i + 1)).n, ⟨#[]⟩, frT ts i, toT ts ((tyG ts n (i + 3)).2.1 - 1)⟩ [(tyG ts n (i + 3)).1], (tyG ts n (i + 3)).2.1, 0)
          else tyG ts n (i + 3)
        else (z0, i + 2, 6)
      else (z0, i + 1, 6) := by rw [tyG, if_neg (by simp [h1]), if_neg (by simp [h2]), if_pos h]
theorem tyG_rec {ts : List Tok} {n i : Nat} (h1 : isK wInt (nxt ts i) = false) (h2 : isK wBool (nxt ts i) = false) (h3 : isK sOpen (nxt ts i) = false) : tyG ts (n + 1) i = if (nxt ts i).k = 1 then (.mk ⟨4, 0, (nxt ts i).s, frT ts i, toT ts i⟩ [], i + 1, 0) else (z0, i, 6) := by rw [tyG, if_neg (by simp [h1]), if_neg (by simp [h2]), if_neg (by simp [h3])]
theorem kind_at {ts : List Tok} {i : Nat} {k : Int} (h : (nxt ts i).k = k) (hk : k ≠ 5) : ∃ x, ts[i]? = some x ∧ nxt ts i = x ∧ x.k = k := by
  unfold nxt at h ⊢
  cases hx : ts[i]? with
  | none => rw [hx] at h; exact absurd h.symm hk
  | some x => rw [hx] at h; exact ⟨x, rfl, rfl, h⟩
end Go.Proofs.YtlkggpjdaaglmaaGreatDoor.am
end
