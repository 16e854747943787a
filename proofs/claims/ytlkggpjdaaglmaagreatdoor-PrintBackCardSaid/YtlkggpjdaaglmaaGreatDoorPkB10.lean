import Derived.Test.YtlkggpjdaaglmaaGreatDoorPkB9
section
namespace Go.Proofs.YtlkggpjdaaglmaaGreatDoor.am
open vt
set_option linter.unusedVariables false
theorem on_facts {s : ByteArray} {i : Nat} (hs : s.size ≤ 8192) (hi : i < s.size) (h : (lx.on s i).2 = 0) : ((lx.on s i).1.k = 1 ∨ (lx.on s i).1.k = 2 ∨ (lx.on s i).1.k = 3 ∨ (lx.on s i).1.k = 4) ∧ (lx.on s i).1.s.size ≤ 8192 ∧ ((lx.on s i).1.k = 1 → (lx.on s i).1.n = 0) ∧ ((lx.on s i).1.k = 2 → (lx.on s i).1.s = ⟨#[]⟩ ∧ 0 ≤ (lx.on s i).1.n ∧ (lx.on s i).1.n ≤ 9223372036854775807) := by
  have hx : ∀ a b, (s.extract a b).size ≤ 8192 := fun a b => by rw [ByteArray.size_extract]; omega
  by_cases hL : lx.isL (lx.B s i) = true
  · by_cases h2 : 16 < lx.run lx.isN s i - i
    · rw [lx.tk_long hL h2] at h; simp at h
    · rw [lx.tk_name hL h2]
      refine ⟨?_, hx _ _, fun _ => rfl, fun e => ?_⟩
      · dsimp only; split
        · exact .inr (.inr (.inl rfl))
        · exact .inl rfl
      · dsimp only at e; split at e <;> exact absurd e (by decide)
  · have hL : lx.isL (lx.B s i) = false := by simpa using hL
    by_cases hD : lx.isD (lx.B s i) = true
    · cases hn : lx.num (s.extract i (lx.run lx.isD s i)) with
      | none => rw [lx.tk_nonum hL hD hn] at h; simp at h
      | some n =>
        rw [lx.tk_number hL hD hn]
        have := (lx.num_spell (lx.dig_cut (Nat.le_of_lt hi)) hn).2
        exact ⟨.inr (.inl rfl), (show (⟨#[]⟩ : ByteArray).size ≤ 8192 by decide), fun e => absurd (show (2 : Int) = 1 from e) (by decide), fun _ => ⟨rfl, this.1, this.2⟩⟩
    · have hD : lx.isD (lx.B s i) = false := by simpa using hD
      by_cases hsg : lx.sgN s i = 0
      · rw [lx.tk_none hL hD hsg] at h; simp at h
      · rw [lx.tk_sign hL hD hsg]
        exact ⟨.inr (.inr (.inr rfl)), hx _ _, fun e => absurd (show (4 : Int) = 1 from e) (by decide), fun e => absurd (show (4 : Int) = 2 from e) (by decide)⟩
theorem toks_was (s : ByteArray) : ∀ n i, s.size - i ≤ n → i ≤ s.size → ∀ x ∈ (lx.toks s i).1, x = lx.tkEnd s ∨ ∃ j, j < s.size ∧ lx.on s j = (x, 0) := by
  intro n
  induction n with
  | zero =>
    intro i hn hi x hx'
    have hnx := lx.nx_le hi
    rw [lx.toks, dif_neg (by omega)] at hx'
    exact .inl (List.mem_singleton.1 hx')
  | succ n ih =>
    intro i hn hi x hx'
    have hnx := lx.nx_le hi
    by_cases h1 : lx.nx s i < s.size; rotate_left
    · rw [lx.toks, dif_neg (by omega)] at hx'
      exact .inl (List.mem_singleton.1 hx')
    by_cases h2 : (lx.on s (lx.nx s i)).2 = 0; rotate_left
    · rw [lx.toks, dif_pos ⟨h1, hi⟩, dif_neg h2] at hx'
      cases hx'
    obtain ⟨hf, j, hj, hlt, hle⟩ := lx.on_to h1 h2
    rw [lx.toks, dif_pos ⟨h1, hi⟩, dif_pos h2] at hx'
    simp only at hx'
    have hone : lx.on s (lx.nx s i) = ((lx.on s (lx.nx s i)).1, 0) := Prod.ext rfl h2
    obtain ⟨y, hy⟩ : ∃ y, (lx.on s (lx.nx s i)).1 = y := ⟨_, rfl⟩
    rw [hy] at hj hx' hone
    have hjt : y.t.toNat = j := by rw [hj]; simp
    rw [hjt] at hx'
    by_cases h3 : (lx.toks s j).2.2 = 0
    · rw [if_pos h3] at hx'
      rcases List.mem_cons.1 hx' with rfl | hx'
      · exact .inr ⟨_, h1, hone⟩
      · exact ih j (by omega) hle x hx'
    · rw [if_neg h3] at hx'
      exact ih j (by omega) hle x hx'
theorem tok_tkw {s : ByteArray} (h : (tokG s).2.2 = 0) : TkW (tokG s).1 := by
  intro j
  rcases Nat.lt_or_ge j (tokG s).1.length with hj | hj
  · have hx : (tokG s).1[j]? = some ((tokG s).1[j]'hj) := List.getElem?_eq_getElem hj
    rw [nxt_some hx]
    have hm := List.getElem_mem hj
    generalize (tokG s).1[j]'hj = y at hm
    unfold tokG lx.tokens at hm h
    by_cases hb : 8192 < s.size
    · rw [if_pos hb] at h; exact absurd (show (3 : Int) = 0 from h) (by decide)
    rw [if_neg hb] at hm
    obtain ⟨z, hz, rfl⟩ := List.mem_map.1 hm
    rcases toks_was s s.size 0 (Nat.sub_le _ _) (Nat.zero_le _) z hz with rfl | ⟨i, hi, ho⟩
    · exact ⟨fun e => absurd (show (5 : Int) = 1 from e) (by decide), fun e => absurd (show (5 : Int) = 2 from e) (by decide)⟩
    · have hf := on_facts (s := s) (i := i) (by omega) hi (by rw [ho])
      rw [ho] at hf
      dsimp only at hf
      have hw : lx.Was z := ⟨s, i, by omega, hi, ho⟩
      exact ⟨fun e => ⟨z, hw, e, hf.2.2.1 e, rfl⟩, fun e => ⟨⟨z, hw, e, rfl, (hf.2.2.2 e).1⟩, (hf.2.2.2 e).2.1, (hf.2.2.2 e).2.2⟩⟩
  · rw [nxt_none hj]
    exact ⟨fun e => absurd (show (5 : Int) = 1 from e) (by decide), fun e => absurd (show (5 : Int) = 2 from e) (by decide)⟩
theorem wz_size {y : Tok} (h : Wz y) : y.s.size ≤ 8192 := by
  obtain ⟨x, ⟨s, i, h1, h2, h3⟩, _, _, e⟩ := h
  have := (on_facts h1 h2 (by rw [h3])).2.1
  rw [h3] at this
  rw [← e]; exact this
noncomputable def spT (y : Tok) : ByteArray := if y.k = 2 then wNum y.n else y.s
theorem sp_kwd (s : ByteArray) : spT (kwd s) = s := by
  unfold spT kwd
  have : ¬ quo s = 2 := by rcases quo_34 s with h | h <;> rw [h] <;> decide
  rw [if_neg this]
theorem sp_nm (s : ByteArray) : spT (nmT s) = s := if_neg (show ¬ (1 : Int) = 2 by decide)
theorem sp_nb (n : Int) : spT (nbT n) = wNum n := if_pos rfl
theorem par_map {b : Int} {A : List Tok} {n : Int} : (parK b A n).map spT = par b (A.map spT) n := by
  unfold parK par
  split
  · rfl
  · simp [sp_kwd]
theorem pre_map (Ms : List (List Tok)) : (preK [kwd sCom] Ms).map spT = pre [sCom] (Ms.map (List.map spT)) := by
  cases Ms with
  | nil => rfl
  | cons a r =>
    unfold preK pre
    simp only [List.map_cons, List.map_append, List.map_flatten, List.map_map]
    congr 3
theorem pre_all {Ms : List (List Tok)} (h : AllW (preK [kwd sCom] Ms)) : ∀ M ∈ Ms, AllW M := by
  cases Ms with
  | nil => intro M hM; cases hM
  | cons a r =>
    unfold preK at h
    intro M hM
    rcases List.mem_cons.1 hM with rfl | hM
    · exact (alw_app.1 h).1
    · intro y hy
      refine (alw_app.1 h).2 y ?_
      rw [List.mem_flatten]
      exact ⟨_, List.mem_map.2 ⟨M, hM, rfl⟩, List.mem_append_right _ hy⟩
theorem par_all {b : Int} {A : List Tok} {n : Int} (h : AllW (parK b A n)) : AllW A := by
  unfold parK at h
  split at h
  · exact h
  · exact (alw_app.1 (alw_app.1 h).1).2
theorem ke_we {t : VT} {M : List Tok} (h : KE t M) : AllW M → WE t (M.map spT) := by
  have ls : ∀ {l : List VT} {Ms : List (List Tok)}, l.length = Ms.length → AllW (preK [kwd sCom] Ms) → (∀ (i : Nat) t M, l[i]? = some t → Ms[i]? = some M → AllW M → WE t (M.map spT)) → l.length = (Ms.map (List.map spT)).length ∧ ∀ (i : Nat) t W, l[i]? = some t → (Ms.map (List.map spT))[i]? = some W → WE t W := fun {l Ms} hl ha ih => by
    refine ⟨by rw [List.length_map]; exact hl, fun i t W a b => ?_⟩
    rw [List.getElem?_map] at b
    obtain ⟨M, hM, rfl⟩ := Option.map_eq_some_iff.1 b
    exact ih i t M a hM (pre_all ha M (List.mem_of_getElem? hM))
  induction h with
  | num x h hs h0 h1 => intro _; rw [List.map_cons, List.map_nil, sp_nb]; exact .num x h (by omega) h1
  | tru x h hn hs => intro _; rw [List.map_cons, List.map_nil, sp_kwd]; exact .tru x h hn
  | fls x h hn hs => intro _; rw [List.map_cons, List.map_nil, sp_kwd]; exact .fls x h hn
  | read x h hn hs => intro _; rw [List.map_cons, List.map_nil, sp_kwd]; exact .read x h
  | nam x h hn => intro ha; rw [List.map_cons, List.map_nil, sp_nm]; exact .nam x h (wz_size (ha _ (.head _)))
  | bin x a c al cl A C h hs h1 h2 ha hc ia ic =>
    intro hw
    obtain ⟨w1, w2⟩ := alw_app.1 hw
    obtain ⟨w2, w3⟩ := alw_app.1 w2
    simp only [List.map_append, List.map_cons, List.map_nil, par_map, sp_kwd]
    exact .bin x a c al cl _ _ h h1 h2 (ia (par_all w1)) (ic (par_all w3))
  | neg x a al A h hn hs ha ia =>
    intro hw
    obtain ⟨w1, w2⟩ := alw_app.1 hw
    simp only [List.map_append, List.map_cons, List.map_nil, par_map, sp_kwd]
    exact .neg x a al _ h hn (ia (par_all w2))
  | nt x a al A h hn hs ha ia =>
    intro hw
    obtain ⟨w1, w2⟩ := alw_app.1 hw
    simp only [List.map_append, List.map_cons, List.map_nil, par_map, sp_kwd]
    exact .nt x a al _ h hn (ia (par_all w2))
  | idx x a c al cl A C h hn hs ha hc ia ic =>
    intro hw
    obtain ⟨w1, w2⟩ := alw_app.1 hw
    obtain ⟨w2, w3⟩ := alw_app.1 w2
    obtain ⟨w3, w4⟩ := alw_app.1 w3
    simp only [List.map_append, List.map_cons, List.map_nil, par_map, sp_kwd]
    exact .idx x a c al cl _ _ h (ia (par_all w1)) (ic w3)
  | fld x a al A h hn ha ia =>
    intro hw
    obtain ⟨w1, w2⟩ := alw_app.1 hw
    obtain ⟨w2, w3⟩ := alw_app.1 w2
    simp only [List.map_append, List.map_cons, List.map_nil, par_map, sp_kwd, sp_nm]
    exact .fld x a al _ h (wz_size (w3 _ (.head _))) (ia (par_all w1))
  | lst x l Ms h hn hs h0 hl hw ih =>
    intro ha
    obtain ⟨w1, w2⟩ := alw_app.1 ha
    obtain ⟨g1, g2⟩ := ls hl (alw_app.1 w2).1 ih
    simp only [List.map_append, List.map_cons, List.map_nil, pre_map, sp_kwd]
    exact .lst x l _ h g1 g2
  | mak x l Ms h hn h0 hl hw ih =>
    intro ha
    obtain ⟨w1, w2⟩ := alw_app.1 ha
    obtain ⟨w2, w3⟩ := alw_app.1 w2
    obtain ⟨w3, w4⟩ := alw_app.1 w3
    obtain ⟨g1, g2⟩ := ls hl (alw_app.1 w4).1 ih
    simp only [List.map_append, List.map_cons, List.map_nil, pre_map, sp_kwd, sp_nm]
    exact .mak x l _ h (wz_size (w2 _ (.head _))) g1 g2
  | cal x l Ms h hn hl hw ih =>
    intro ha
    obtain ⟨w2, w3⟩ := alw_app.1 ha
    obtain ⟨w3, w4⟩ := alw_app.1 w3
    obtain ⟨g1, g2⟩ := ls hl (alw_app.1 w4).1 ih
    simp only [List.map_append, List.map_cons, List.map_nil, pre_map, sp_kwd, sp_nm]
    exact .cal x l _ h (wz_size (w2 _ (.head _))) g1 g2
  | ext x l Ms h hn hl hw ih =>
    intro ha
    obtain ⟨w1, w2⟩ := alw_app.1 ha
    obtain ⟨w2, w3⟩ := alw_app.1 w2
    obtain ⟨w3, w4⟩ := alw_app.1 w3
    obtain ⟨g1, g2⟩ := ls hl (alw_app.1 w4).1 ih
    simp only [List.map_append, List.map_cons, List.map_nil, pre_map, sp_kwd, sp_nm]
    exact .ext x l _ h (wz_size (w2 _ (.head _))) g1 g2
theorem jn_J (L : List lx.Tk) : ∀ k, k ≤ L.length → lx.jn L k = J ((L.take k).map lx.spell)
  | 0, _ => rfl
  | k + 1, hk => by
    have hx : L[k]? = some (L[k]'(by omega)) := List.getElem?_eq_getElem _
    rw [lx.jn_at hx, jn_J L k (by omega), List.take_add_one, hx, List.map_append]
    by_cases h0 : k = 0
    · subst h0
      rw [if_pos rfl]
      show J [] ++ _ = J ([] ++ [lx.spell _])
      rw [J_nil, List.nil_append, J_one, lx.app_nil']
    · rw [if_neg h0]
      show _ = J ((L.take k).map lx.spell ++ [lx.spell (L[k]'(by omega))])
      have hne : (L.take k).map lx.spell ≠ [] := fun e => by
        have := congrArg List.length e
        rw [List.length_map, List.length_take, Nat.min_eq_left (by omega)] at this
        simp at this; omega
      rw [J_app hne (by simp), J_one]
      rfl
theorem J_toks {M : List Tok} (h : AllW M) (h8 : (J (M.map spT)).size ≤ 8192) : (tokG (J (M.map spT))).2.2 = 0 ∧ (tokG (J (M.map spT))).1.length = M.length + 1 ∧ Lk (tokG (J (M.map spT))).1 0 M ∧ nxt (tokG (J (M.map spT))).1 M.length = enT (J (M.map spT)) := by
  obtain ⟨L, hL, hq⟩ := bs.choose_list M.length (fun i (x : lx.Tk) => ∃ y, M[i]? = some y ∧ lx.Was x ∧ x.k = y.k ∧ x.n = y.n ∧ x.s = y.s) (fun i hi => by
    obtain ⟨x, a, b, c, d⟩ := h _ (List.getElem_mem hi)
    exact ⟨x, _, List.getElem?_eq_getElem hi, a, b, c, d⟩)
  have hsp : L.map lx.spell = M.map spT := by
    apply List.ext_getElem?
    intro i
    rw [List.getElem?_map, List.getElem?_map]
    by_cases hi : i < L.length
    · have hx : L[i]? = some (L[i]'hi) := List.getElem?_eq_getElem hi
      obtain ⟨y, e1, ⟨s, j, g1, g2, g3⟩, e3, e4, e5⟩ := hq i _ hx
      rw [hx, e1]
      show some _ = some _
      have hf := on_facts g1 g2 (by rw [g3])
      rw [g3] at hf
      dsimp only at hf
      congr 1
      unfold lx.spell spT
      rw [← e3, ← e4, ← e5]
      rcases hf.1 with e | e | e | e
      · rw [if_pos (.inl e), if_neg (by omega)]
      · rw [if_neg (by omega), if_pos e, if_pos e]
      · rw [if_pos (.inr (.inl e)), if_neg (by omega)]
      · rw [if_pos (.inr (.inr e)), if_neg (by omega)]
    · rw [List.getElem?_eq_none (by omega), List.getElem?_eq_none (by omega)]; rfl
  have hJ : lx.jn L L.length = J (M.map spT) := by rw [jn_J L L.length (Nat.le_refl _), List.take_length, hsp]
  obtain ⟨L', l1, l2, l3⟩ := lx.jn_tokens L (fun x hx => by
    obtain ⟨i, hi⟩ := List.mem_iff_getElem?.1 hx
    obtain ⟨y, _, w, _⟩ := hq i x hi
    exact w) (by rw [hJ]; exact h8)
  rw [hJ] at l3
  have ht : tokG (J (M.map spT)) = (L'.map tkT ++ [enT (J (M.map spT))], 0, 0) := by
    unfold tokG
    rw [l3]
    simp only [List.map_append, List.map_cons, List.map_nil]
    rfl
  rw [ht]
  have hlen : (L'.map tkT).length = M.length := by rw [List.length_map, l1, hL]
  refine ⟨rfl, by rw [List.length_append, hlen]; rfl, fun j y hy => ?_, ?_⟩
  · have hj := (List.getElem?_eq_some_iff.1 hy).1
    rw [Nat.zero_add]
    have hx' : L'[j]? = some (L'[j]'(by omega)) := List.getElem?_eq_getElem _
    have hx : L[j]? = some (L[j]'(by omega)) := List.getElem?_eq_getElem _
    obtain ⟨a1, a2, a3⟩ := l2 j _ _ hx' hx
    obtain ⟨y', e1, _, e3, e4, e5⟩ := hq j _ hx
    rw [hy] at e1; cases e1
    have hn : nxt (L'.map tkT ++ [enT (J (M.map spT))]) j = tkT (L'[j]'(by omega)) := nxt_some (by rw [List.getElem?_append_left (by omega), List.getElem?_map, hx']; rfl)
    show Lke (nxt (L'.map tkT ++ [enT (J (M.map spT))]) j) y
    rw [hn]
    exact ⟨a1.trans e3, a2.trans e4, a3.trans e5⟩
  · show nxt (L'.map tkT ++ [enT (J (M.map spT))]) M.length = _
    exact nxt_some (by rw [List.getElem?_append_right (by omega), hlen, Nat.sub_self]; rfl)
end Go.Proofs.YtlkggpjdaaglmaaGreatDoor.am
end
section
namespace Go.Proofs.YtlkggpjdaaglmaaGreatDoor.am
open vt
set_option linter.unusedVariables false
section
variable {ts : List Tok}
end
end Go.Proofs.YtlkggpjdaaglmaaGreatDoor.am
end
section
namespace Go.Proofs.YtlkggpjdaaglmaaGreatDoor.am
open vt
set_option linter.unusedVariables false
inductive KTp : VT → List Tok → Prop
  | int (x : Lab) (h : x.k = 1) (hn : x.n = 0) (hs : x.s = ⟨#[]⟩) : KTp (.mk x []) [kwd wInt]
  | bool (x : Lab) (h : x.k = 2) (hn : x.n = 0) (hs : x.s = ⟨#[]⟩) : KTp (.mk x []) [kwd wBool]
  | arr (x a : Lab) (al : List VT) (A : List Tok) (h : x.k = 3) (hs : x.s = ⟨#[]⟩) (h0 : 0 ≤ x.n) (h1 : x.n ≤ 9223372036854775807) (ha : KTp (.mk a al) A) : KTp (.mk x [.mk a al]) ([kwd sOpen] ++ ([nbT x.n] ++ ([kwd sShut] ++ A)))
  | rec' (x : Lab) (h : x.k = 4) (hn : x.n = 0) : KTp (.mk x []) [nmT x.s]
inductive KS : VT → List Tok → Prop
  | blk (x : Lab) (l : List VT) (Ms : List (List Tok)) (h : x.k = 29) (hn : x.n = 0) (hs : x.s = ⟨#[]⟩) (hl : l.length = Ms.length) (hw : ∀ (i : Nat) t M, l[i]? = some t → Ms[i]? = some M → KS t M) : KS (.mk x l) ([kwd sBra] ++ (Ms.flatten ++ [kwd sKet]))
  | lt (x a : Lab) (al : List VT) (A : List Tok) (h : x.k = 20) (hn : x.n = 0) (ha : KE (.mk a al) A) : KS (.mk x [.mk a al]) ([kwd wLet] ++ ([nmT x.s] ++ ([kwd sIs] ++ (A ++ [kwd sEnd]))))
  | new (x a : Lab) (al : List VT) (A : List Tok) (h : x.k = 21) (hn : x.n = 0) (ha : KTp (.mk a al) A) : KS (.mk x [.mk a al]) ([kwd wLet] ++ ([nmT x.s] ++ ([kwd sCol] ++ (A ++ [kwd sEnd]))))
  | set' (x a c : Lab) (al cl : List VT) (A C : List Tok) (h : x.k = 22) (hn : x.n = 0) (hs : x.s = ⟨#[]⟩) (ha : KE (.mk a al) A) (hc : KE (.mk c cl) C) : KS (.mk x [.mk a al, .mk c cl]) (A ++ ([kwd sIs] ++ (C ++ [kwd sEnd])))
  | ifn (x a c e : Lab) (al cl : List VT) (A C : List Tok) (h : x.k = 23) (hn : x.n = 0) (hs : x.s = ⟨#[]⟩) (ha : KE (.mk a al) A) (hk : c.k = 29) (hc : KS (.mk c cl) C) (e1 : e.k = 29) (e2 : e.n = 0) (e3 : e.s = ⟨#[]⟩) : KS (.mk x [.mk a al, .mk c cl, .mk e []]) ([kwd wIf] ++ (A ++ C))
  | ife (x a c e : Lab) (al cl el : List VT) (A C E : List Tok) (h : x.k = 23) (hn : x.n = 0) (hs : x.s = ⟨#[]⟩) (ha : KE (.mk a al) A) (hk : c.k = 29) (hc : KS (.mk c cl) C) (he : e.k = 29) (hel : el ≠ []) (hE : KS (.mk e el) E) : KS (.mk x [.mk a al, .mk c cl, .mk e el]) ([kwd wIf] ++ (A ++ (C ++ ([kwd wElse] ++ E))))
  | whl (x a c : Lab) (al cl : List VT) (A C : List Tok) (h : x.k = 24) (hn : x.n = 0) (hs : x.s = ⟨#[]⟩) (ha : KE (.mk a al) A) (hk : c.k = 29) (hc : KS (.mk c cl) C) : KS (.mk x [.mk a al, .mk c cl]) ([kwd wWhil] ++ (A ++ C))
  | frr (x a b c : Lab) (al bl cl : List VT) (A B C : List Tok) (h : x.k = 25) (hn : x.n = 0) (ha : KE (.mk a al) A) (hb : KE (.mk b bl) B) (hk : c.k = 29) (hc : KS (.mk c cl) C) : KS (.mk x [.mk a al, .mk b bl, .mk c cl]) ([kwd wFor] ++ ([nmT x.s] ++ ([kwd sIs] ++ (A ++ ([kwd wTo] ++ (B ++ C))))))
  | prn (x a : Lab) (al : List VT) (A : List Tok) (h : x.k = 26) (hn : x.n = 0) (hs : x.s = ⟨#[]⟩) (ha : KE (.mk a al) A) : KS (.mk x [.mk a al]) ([kwd wPrin] ++ (A ++ [kwd sEnd]))
  | rtn (x a : Lab) (al : List VT) (A : List Tok) (h : x.k = 27) (hn : x.n = 0) (hs : x.s = ⟨#[]⟩) (ha : KE (.mk a al) A) : KS (.mk x [.mk a al]) ([kwd wRet] ++ (A ++ [kwd sEnd]))
  | doo (x a : Lab) (al : List VT) (A : List Tok) (h : x.k = 28) (hn : x.n = 0) (hs : x.s = ⟨#[]⟩) (ha : KE (.mk a al) A) : KS (.mk x [.mk a al]) ([kwd wDo] ++ (A ++ [kwd sEnd]))
def NoE (w : ByteArray) : Prop := isK w (kwd wTrue) = false ∧ isK w (kwd wFals) = false ∧ isK w (kwd wRead) = false ∧ isK w (kwd sMin) = false ∧ isK w (kwd sNot) = false ∧ isK w (kwd sOpen) = false ∧ isK w (kwd wNew) = false ∧ isK w (kwd sAt) = false ∧ isK w (kwd sParO) = false
theorem ke_no {t : VT} {M : List Tok} (h : KE t M) : ∃ y r, M = y :: r ∧ ∀ w, NoE w → isK w y = false := by
  have hp : ∀ {a : Lab} {A : List Tok} {n : Int}, (∃ y r, A = y :: r ∧ ∀ w, NoE w → isK w y = false) → ∃ y r, parK (tgh a) A n = y :: r ∧ ∀ w, NoE w → isK w y = false := fun {a A n} ⟨y, r, h1, h2⟩ => by
    unfold parK
    split
    · exact ⟨y, r, h1, h2⟩
    · exact ⟨_, _, rfl, fun w hw => hw.2.2.2.2.2.2.2.2⟩
  induction h with
  | num => exact ⟨_, _, rfl, fun w hw => isK_nb _ _⟩
  | tru => exact ⟨_, _, rfl, fun w hw => hw.1⟩
  | fls => exact ⟨_, _, rfl, fun w hw => hw.2.1⟩
  | read => exact ⟨_, _, rfl, fun w hw => hw.2.2.1⟩
  | nam => exact ⟨_, _, rfl, fun w hw => isK_nm _ _⟩
  | bin x a c al cl A C h hs h1 h2 ha hc ia ic =>
    obtain ⟨y, r, e, e1⟩ := hp (a := a) (n := if (opB x.n).2 = 3 then 4 else (opB x.n).2) ia
    exact ⟨y, _, by rw [e]; rfl, e1⟩
  | neg => exact ⟨_, _, rfl, fun w hw => hw.2.2.2.1⟩
  | nt => exact ⟨_, _, rfl, fun w hw => hw.2.2.2.2.1⟩
  | idx x a c al cl A C h hn hs ha hc ia ic =>
    obtain ⟨y, r, e, e1⟩ := hp (a := a) (n := 7) ia
    exact ⟨y, _, by rw [e]; rfl, e1⟩
  | fld x a al A h hn ha ia =>
    obtain ⟨y, r, e, e1⟩ := hp (a := a) (n := 7) ia
    exact ⟨y, _, by rw [e]; rfl, e1⟩
  | lst => exact ⟨_, _, rfl, fun w hw => hw.2.2.2.2.2.1⟩
  | mak => exact ⟨_, _, rfl, fun w hw => hw.2.2.2.2.2.2.1⟩
  | cal => exact ⟨_, _, rfl, fun w hw => isK_nm _ _⟩
  | ext => exact ⟨_, _, rfl, fun w hw => hw.2.2.2.2.2.2.2.1⟩
theorem ks_no {t : VT} {M : List Tok} (h : KS t M) : ∃ y r, M = y :: r ∧ isK sKet y = false ∧ isK wElse y = false := by
  cases h
  case set' x a c al cl A C h hn hs ha hc =>
    obtain ⟨y, r, e, e1⟩ := ke_no ha
    exact ⟨y, _, by rw [e]; rfl, e1 _ (by unfold NoE; decide), e1 _ (by unfold NoE; decide)⟩
  all_goals exact ⟨_, _, rfl, by decide, by decide⟩
section
variable {ts : List Tok}
theorem kt_read {t : VT} {M : List Tok} (h : KTp t M) : ∀ n i, M.length ≤ n → Lk ts i M → i + M.length ≤ ts.length → ∃ t', Sm t' t ∧ tyG ts n i = (t', i + M.length, 0) := by
  induction h with
  | int x h hn hs =>
    intro n i hl hk hb
    have hk := lk_one.1 hk
    obtain ⟨n, rfl⟩ : ∃ q, n = q + 1 := ⟨n - 1, by simp at hl; omega⟩
    refine ⟨.mk ⟨1, 0, ⟨#[]⟩, frT ts i, toT ts i⟩ [], sm0 h.symm hn.symm hs.symm, ?_⟩
    rw [tyG, if_pos (by rw [lke_isK hk]; decide)]; rfl
  | bool x h hn hs =>
    intro n i hl hk hb
    have hk := lk_one.1 hk
    obtain ⟨n, rfl⟩ : ∃ q, n = q + 1 := ⟨n - 1, by simp at hl; omega⟩
    refine ⟨.mk ⟨2, 0, ⟨#[]⟩, frT ts i, toT ts i⟩ [], sm0 h.symm hn.symm hs.symm, ?_⟩
    rw [tyG, if_neg (by rw [lke_isK hk]; decide), if_pos (by rw [lke_isK hk]; decide)]; rfl
  | rec' x h hn =>
    intro n i hl hk hb
    have hk := lk_one.1 hk
    obtain ⟨n, rfl⟩ : ∃ q, n = q + 1 := ⟨n - 1, by simp at hl; omega⟩
    refine ⟨.mk ⟨4, 0, (nxt ts i).s, frT ts i, toT ts i⟩ [], sm0 h.symm hn.symm hk.s, ?_⟩
    rw [tyG, if_neg (by rw [lke_isK hk, isK_nm]; simp), if_neg (by rw [lke_isK hk, isK_nm]; simp), if_neg (by rw [lke_isK hk, isK_nm]; simp), if_pos (show (nxt ts i).k = 1 from hk.k)]; rfl
  | arr x a al A h hs h0 h1 ha ih =>
    intro n i hl hk hb
    obtain ⟨k1, k2⟩ := lk_app.1 hk
    obtain ⟨k2, k3⟩ := lk_app.1 k2
    obtain ⟨k3, k4⟩ := lk_app.1 k3
    simp only [List.length_append, List.length_singleton] at hl hb k2 k3 k4 ⊢
    have k1 := lk_one.1 k1
    have k2 := lk_one.1 k2
    have k3 := lk_one.1 k3
    obtain ⟨n, rfl⟩ : ∃ q, n = q + 1 := ⟨n - 1, by omega⟩
    obtain ⟨a', g1, g2⟩ := ih n (i + 1 + 1 + 1) (by omega) k4 (by omega)
    have e3 : i + (1 + (1 + (1 + A.length))) = i + 1 + 1 + 1 + A.length := by omega
    rw [e3]
    refine ⟨.mk ⟨3, (nxt ts (i + 1)).n, ⟨#[]⟩, frT ts i, toT ts (i + 1 + 1 + 1 + A.length - 1)⟩ [a'], sm1 h.symm k2.n hs.symm g1, ?_⟩
    have g2 : tyG ts n (i + 3) = (a', i + 1 + 1 + 1 + A.length, 0) := g2
    rw [tyG, if_neg (by rw [lke_isK k1]; decide), if_neg (by rw [lke_isK k1]; decide), if_pos (by rw [lke_isK k1]; decide), if_pos (show (nxt ts (i + 1)).k = 2 from k2.k), if_pos (show isK sShut (nxt ts (i + 2)) = true by rw [show i + 2 = i + 1 + 1 from rfl, lke_isK k3]; decide), g2, if_pos rfl]
theorem ex_read {t : VT} {M : List Tok} (h : KE t M) {i : Nat} (hk : Lk ts i M) (hb : i + M.length ≤ ts.length) (hf : Fol 0 (nxt ts (i + M.length))) : ∃ t', Sm t' t ∧ Qx ts 1 i = (t', i + M.length, 0) := by
  obtain ⟨t', g1, g2⟩ := ke_read h i hk hb
  have ht := ke_tgh h
  exact ⟨t', g1, red_fin g2 (by omega) (by decide) (by omega) (by decide) hf⟩
theorem fol_w {s : ByteArray} (h1 : (opK (kwd s)).2 = 6) (h2 : isK sOpen (kwd s) = false) (h3 : isK sDot (kwd s) = false) (h4 : isK sParO (kwd s) = false) {i : Nat} (h : Lke (nxt ts i) (kwd s)) : Fol 0 (nxt ts i) := fol_lke h (fol_kwd h1 h2 h3 h4)
theorem ty_read {S : Nat → Got} {t : VT} {M : List Tok} (h : KTp t M) {i : Nat} (hk : Lk ts i M) (hb : i + M.length ≤ ts.length) : ∃ t', Sm t' t ∧ RR ts S 1 i = (t', i + M.length, 0) := by
  obtain ⟨t', g1, g2⟩ := kt_read h (ts.length + 1) i (by omega) hk hb
  exact ⟨t', g1, by unfold RR; rw [if_neg (by decide), if_pos rfl, g2]⟩
end
end Go.Proofs.YtlkggpjdaaglmaaGreatDoor.am
end
section
namespace Go.Proofs.YtlkggpjdaaglmaaGreatDoor.am
open vt
set_option linter.unusedVariables false
theorem sm3 {x y : Lab} {a b c d e f : VT} (hk : x.k = y.k) (hn : x.n = y.n) (hs : x.s = y.s) (h : Sm a b) (g : Sm c d) (j : Sm e f) : Sm (.mk x [a, c, e]) (.mk y [b, d, f]) := .mk x y _ _ hk hn hs rfl (fun i p q h1 h2 => by
  match i, h1, h2 with
  | 0, h1, h2 => cases h1; cases h2; exact h
  | 1, h1, h2 => cases h1; cases h2; exact g
  | 2, h1, h2 => cases h1; cases h2; exact j
  | i + 3, h1, h2 => simp at h1)
theorem noE_of {w : ByteArray} (h : NoE w) {t : VT} {M : List Tok} (hk : KE t M) {ts : List Tok} {i : Nat} (hl : Lk ts i M) : isK w (nxt ts i) = false := by
  obtain ⟨y, r, e, e1⟩ := ke_no hk
  have := hl 0 y (by rw [e]; rfl)
  rw [Nat.add_zero] at this
  rw [lke_isK this]; exact e1 w h
section
variable {ts : List Tok}
def RdS (ts : List Tok) (n : Nat) (t : VT) (M : List Tok) : Prop := ∀ i, Lk ts i M → i + M.length ≤ ts.length → isK wElse (nxt ts (i + M.length)) = false → ∃ t', Sm t' t ∧ sG ts n i = (t', i + M.length, 0)
def RdB (ts : List Tok) (n : Nat) (t : VT) (M : List Tok) : Prop := ∀ i, Lk ts i M → i + M.length ≤ ts.length → ∃ t', Sm t' t ∧ blG ts (sG ts n) i = (t', i + M.length, 0)
theorem lpB_read {n a : Nat} : ∀ (l : List VT) (Ms : List (List Tok)), l.length = Ms.length → (∀ (k : Nat) t M, l[k]? = some t → Ms[k]? = some M → KS t M ∧ RdS ts n t M) → ∀ (m i : Nat) (acc : List VT), Lk ts i (Ms.flatten ++ [kwd sKet]) → i + Ms.flatten.length + 1 ≤ ts.length → Ms.length < m → ∃ l', SmL l' l ∧ lpB ts (sG ts n) a m i acc = mk7 ts a (i + Ms.flatten.length + 1) 29 0 ⟨#[]⟩ (acc ++ l')
  | [], [], hl, hw, m, i, acc, h1, h2, h3 => by
    obtain ⟨m, rfl⟩ : ∃ q, m = q + 1 := ⟨m - 1, by omega⟩
    simp only [List.flatten_nil, List.nil_append, List.length_nil, Nat.add_zero] at h1 h2 ⊢
    have h1 := lk_one.1 h1
    exact ⟨[], ⟨rfl, fun i a b h => by simp at h⟩, by rw [lpB, if_pos (by rw [lke_isK h1]; decide), List.append_nil]⟩
  | [], M :: Ms, hl, hw, m, i, acc, h1, h2, h3 => by simp at hl
  | t :: l, [], hl, hw, m, i, acc, h1, h2, h3 => by simp at hl
  | t :: l, M :: Ms, hl, hw, m, i, acc, h1, h2, h3 => by
    obtain ⟨m, rfl⟩ : ∃ q, m = q + 1 := ⟨m - 1, by omega⟩
    obtain ⟨hk, hr⟩ := hw 0 t M rfl rfl
    rw [List.flatten_cons, List.append_assoc] at h1
    rw [List.flatten_cons, List.length_append] at h2 ⊢
    obtain ⟨k1, k2⟩ := lk_app.1 h1
    have hels : isK wElse (nxt ts (i + M.length)) = false := by
      cases Ms with
      | nil =>
        have := lk_one.1 k2
        rw [lke_isK this]; decide
      | cons M2 r =>
        cases l with
        | nil => simp at hl
        | cons u l =>
          obtain ⟨y, q, e, _, e2⟩ := ks_no (hw 1 u M2 rfl rfl).1
          have := k2 0 y (by rw [e]; rfl)
          rw [Nat.add_zero] at this
          rw [lke_isK this]; exact e2
    obtain ⟨t', g1, g2⟩ := hr i k1 (by omega) hels
    obtain ⟨y, q, e, e1, _⟩ := ks_no hk
    have hy := k1 0 y (by rw [e]; rfl)
    rw [Nat.add_zero] at hy
    obtain ⟨l', q1, q2⟩ := lpB_read l Ms (by simpa using hl) (fun k t' M' a b => hw (k + 1) t' M' (by simpa using a) (by simpa using b)) m (i + M.length) (acc ++ [t']) k2 (by omega) (by simp at h3; omega)
    refine ⟨t' :: l', ⟨by simp only [List.length_cons, q1.1], fun k a b ha hb => ?_⟩, ?_⟩
    · cases k with
      | zero => simp at ha hb; subst ha hb; exact g1
      | succ k => exact q1.2 k a b (by simpa using ha) (by simpa using hb)
    · rw [lpB, if_neg (by rw [lke_isK hy, e1]; simp), g2, if_pos rfl]
      dsimp only
      rw [q2, List.append_assoc, show i + (M.length + Ms.flatten.length) + 1 = i + M.length + Ms.flatten.length + 1 by omega]
      rfl
theorem flat_mem_len {Ms : List (List Tok)} : ∀ {M}, M ∈ Ms → M.length ≤ Ms.flatten.length := fun {M} h => by
  obtain ⟨s, t, rfl⟩ := List.append_of_mem h
  simp; omega
theorem flat_ge : ∀ (Ms : List (List Tok)), (∀ M ∈ Ms, M ≠ []) → Ms.length ≤ Ms.flatten.length
  | [], _ => Nat.zero_le _
  | M :: r, h => by
    have h1 := List.length_pos_iff.2 (h M (.head _))
    have h2 := flat_ge r (fun N hN => h N (.tail _ hN))
    rw [List.flatten_cons, List.length_append, List.length_cons]; omega
theorem rr0 {S : Nat → Got} {i : Nat} : RR ts S 0 i = Qx ts 1 i := by unfold RR; rw [if_pos rfl]
theorem rr2 {S : Nat → Got} {i : Nat} : RR ts S 2 i = blG ts S i := by unfold RR; rw [if_neg (by decide), if_neg (by decide)]
theorem folE {i : Nat} (h : Lke (nxt ts i) (kwd sEnd)) : Fol 0 (nxt ts i) := fol_w (by decide) (by decide) (by decide) (by decide) h
theorem folB {i : Nat} (h : Lke (nxt ts i) (kwd sBra)) : Fol 0 (nxt ts i) := fol_w (by decide) (by decide) (by decide) (by decide) h
theorem folI {i : Nat} (h : Lke (nxt ts i) (kwd sIs)) : Fol 0 (nxt ts i) := fol_w (by decide) (by decide) (by decide) (by decide) h
theorem folT {i : Nat} (h : Lke (nxt ts i) (kwd wTo)) : Fol 0 (nxt ts i) := fol_w (by decide) (by decide) (by decide) (by decide) h
theorem blk_hd {c : Lab} {cl : List VT} {C : List Tok} (hk : c.k = 29) (hc : KS (.mk c cl) C) {i : Nat} (h : Lk ts i C) : Lke (nxt ts i) (kwd sBra) := by
  cases hc with
  | blk x l Ms h1 hn hs hl hw =>
    have := h 0 (kwd sBra) rfl
    rwa [Nat.add_zero] at this
  | _ => omega
set_option maxHeartbeats 4000000 in
theorem ks_read {t : VT} {M : List Tok} (h : KS t M) : (∀ n, M.length ≤ n → RdS ts n t M) ∧ (t.lab.k = 29 → ∀ n, M.length ≤ n + 1 → RdB ts n t M) := by
  have nb : ∀ {x : Lab} {l : List VT} {M : List Tok} {c : Int}, x.k = c → c ≠ 29 → ((Tr.mk x l).lab.k = 29 → ∀ n, M.length ≤ n + 1 → RdB ts n (Tr.mk x l) M) := fun {x l M c} h hc hk => absurd (h.symm.trans hk) hc
  induction h with
  | blk x l Ms h hn hs hl hw ih =>
    have hB : ∀ n, ([kwd sBra] ++ (Ms.flatten ++ [kwd sKet])).length ≤ n + 1 → RdB ts n (.mk x l) ([kwd sBra] ++ (Ms.flatten ++ [kwd sKet])) := fun n hn' i hk hb => by
      obtain ⟨k1, k2⟩ := lk_app.1 hk
      have k1 := lk_one.1 k1
      simp only [List.length_append, List.length_singleton] at hn' hb k2 ⊢
      have hne : ∀ M ∈ Ms, M ≠ [] := fun M hM => by
        obtain ⟨j, hj⟩ := List.mem_iff_getElem?.1 hM
        have hlt := (List.getElem?_eq_some_iff.1 hj).1
        obtain ⟨y, r, e, _⟩ := ks_no (hw j _ M (List.getElem?_eq_getElem (by omega)) hj)
        rw [e]; simp
      have hge := flat_ge Ms hne
      obtain ⟨l', q1, q2⟩ := lpB_read (n := n) (a := i) l Ms hl (fun k t M a b => ⟨hw k t M a b, (ih k t M a b).1 n (by have := flat_mem_len (List.mem_of_getElem? b); omega)⟩) (ts.length + 1) (i + 1) [] k2 (by omega) (by omega)
      refine ⟨.mk ⟨29, 0, ⟨#[]⟩, frT ts i, toT ts (i + 1 + Ms.flatten.length + 1 - 1)⟩ l', smLs h.symm hn.symm hs.symm q1, ?_⟩
      unfold blG
      rw [if_pos (by rw [lke_isK k1]; decide), q2, show i + (1 + (Ms.flatten.length + 1)) = i + 1 + Ms.flatten.length + 1 by omega]
      rfl
    refine ⟨fun n hn' i hk hb _ => ?_, fun _ => hB⟩
    have hn1 : 1 ≤ n := by simp only [List.length_append, List.length_singleton] at hn'; omega
    obtain ⟨n, rfl⟩ : ∃ q, n = q + 1 := ⟨n - 1, by omega⟩
    obtain ⟨t', g1, g2⟩ := hB n hn' i hk hb
    refine ⟨t', g1, ?_⟩
    rw [sG, if_pos (by rw [lke_isK (lk_one.1 (lk_app.1 hk).1)]; decide), g2]
  | lt x a al A h hn ha =>
    refine ⟨fun n hn' i hk hb _ => ?_, nb h (by decide)⟩
    obtain ⟨k1, k2⟩ := lk_app.1 hk
    obtain ⟨k2, k3⟩ := lk_app.1 k2
    obtain ⟨k3, k4⟩ := lk_app.1 k3
    obtain ⟨k4, k5⟩ := lk_app.1 k4
    simp only [List.length_append, List.length_singleton] at hn' hb k2 k3 k4 k5 ⊢
    have k1 := lk_one.1 k1; have k2 := lk_one.1 k2; have k3 := lk_one.1 k3; have k5 := lk_one.1 k5
    obtain ⟨n, rfl⟩ : ∃ q, n = q + 1 := ⟨n - 1, by omega⟩
    obtain ⟨a', g1, g2⟩ := ex_read ha k4 (by omega) (folE k5)
    have hN : i + (1 + (1 + (1 + (A.length + 1)))) = i + 1 + 1 + 1 + A.length + 1 := by omega
    rw [hN]
    refine ⟨.mk ⟨20, 0, (nxt ts (i + 1)).s, frT ts i, toT ts (i + 1 + 1 + 1 + A.length + 1 - 1)⟩ [a'], sm1 h.symm hn.symm k2.s g1, ?_⟩
    have hf : frmG ts i = (20, [.sgn wLet, .nam, .sgn sIs, .sub 0, .sgn sEnd]) := by
      unfold frmG
      rw [if_pos (by rw [lke_isK k1]; decide), if_neg (fun g => absurd g.2 (by rw [show i + 2 = i + 1 + 1 from rfl, lke_isK k3]; decide))]
    rw [sG, if_neg (by rw [lke_isK k1]; decide), hf]
    dsimp only
    rw [itG_sgn, if_pos (by rw [lke_isK k1]; decide), itG_nam, if_pos (show (nxt ts (i + 1)).k = 1 from k2.k), itG_sgn, if_pos (by rw [lke_isK k3]; decide), itG_sub, rr0, g2, if_pos rfl, itG_sgn, if_pos (by rw [lke_isK k5]; decide), itH]
    rfl
  | new x a al A h hn ha =>
    refine ⟨fun n hn' i hk hb _ => ?_, nb h (by decide)⟩
    obtain ⟨k1, k2⟩ := lk_app.1 hk
    obtain ⟨k2, k3⟩ := lk_app.1 k2
    obtain ⟨k3, k4⟩ := lk_app.1 k3
    obtain ⟨k4, k5⟩ := lk_app.1 k4
    simp only [List.length_append, List.length_singleton] at hn' hb k2 k3 k4 k5 ⊢
    have k1 := lk_one.1 k1; have k2 := lk_one.1 k2; have k3 := lk_one.1 k3; have k5 := lk_one.1 k5
    obtain ⟨n, rfl⟩ : ∃ q, n = q + 1 := ⟨n - 1, by omega⟩
    obtain ⟨a', g1, g2⟩ := ty_read (S := sG ts n) ha k4 (by omega)
    have hN : i + (1 + (1 + (1 + (A.length + 1)))) = i + 1 + 1 + 1 + A.length + 1 := by omega
    rw [hN]
    refine ⟨.mk ⟨21, 0, (nxt ts (i + 1)).s, frT ts i, toT ts (i + 1 + 1 + 1 + A.length + 1 - 1)⟩ [a'], sm1 h.symm hn.symm k2.s g1, ?_⟩
    have hf : frmG ts i = (21, [.sgn wLet, .nam, .sgn sCol, .sub 1, .sgn sEnd]) := by
      unfold frmG
      rw [if_pos (by rw [lke_isK k1]; decide), if_pos ⟨show (nxt ts (i + 1)).k = 1 from k2.k, by rw [show i + 2 = i + 1 + 1 from rfl, lke_isK k3]; decide⟩]
    rw [sG, if_neg (by rw [lke_isK k1]; decide), hf]
    dsimp only
    rw [itG_sgn, if_pos (by rw [lke_isK k1]; decide), itG_nam, if_pos (show (nxt ts (i + 1)).k = 1 from k2.k), itG_sgn, if_pos (by rw [lke_isK k3]; decide), itG_sub, g2, if_pos rfl, itG_sgn, if_pos (by rw [lke_isK k5]; decide), itH]
    rfl
  | set' x a c al cl A C h hn hs ha hc =>
    refine ⟨fun n hn' i hk hb _ => ?_, nb h (by decide)⟩
    obtain ⟨k1, k2⟩ := lk_app.1 hk
    obtain ⟨k2, k3⟩ := lk_app.1 k2
    obtain ⟨k3, k4⟩ := lk_app.1 k3
    simp only [List.length_append, List.length_singleton] at hn' hb k3 k4 ⊢
    have k2 := lk_one.1 k2; have k4 := lk_one.1 k4
    obtain ⟨n, rfl⟩ : ∃ q, n = q + 1 := ⟨n - 1, by omega⟩
    obtain ⟨a', g1, g2⟩ := ex_read ha k1 (by omega) (folI k2)
    obtain ⟨c', g3, g4⟩ := ex_read hc k3 (by omega) (folE k4)
    have hN : i + (A.length + (1 + (C.length + 1))) = i + A.length + 1 + C.length + 1 := by omega
    rw [hN]
    refine ⟨.mk ⟨22, 0, ⟨#[]⟩, frT ts i, toT ts (i + A.length + 1 + C.length + 1 - 1)⟩ [a', c'], sm2 h.symm hn.symm hs.symm g1 g3, ?_⟩
    have no : ∀ w, NoE w → ¬ isK w (nxt ts i) = true := fun w hw => by rw [noE_of hw ha k1]; simp
    have hf : frmG ts i = (22, [.sub 0, .sgn sIs, .sub 0, .sgn sEnd]) := by
      unfold frmG
      rw [if_neg (no _ (by unfold NoE; decide)), if_neg (no _ (by unfold NoE; decide)), if_neg (no _ (by unfold NoE; decide)), if_neg (no _ (by unfold NoE; decide)), if_neg (no _ (by unfold NoE; decide)), if_neg (no _ (by unfold NoE; decide)), if_neg (no _ (by unfold NoE; decide))]
    rw [sG, if_neg (no _ (by unfold NoE; decide)), hf]
    dsimp only
    rw [itG_sub, rr0, g2, if_pos rfl, itG_sgn, if_pos (by rw [lke_isK k2]; decide), itG_sub, rr0, g4, if_pos rfl, itG_sgn, if_pos (by rw [lke_isK k4]; decide), itH]
    rfl
  | ifn x a c e al cl A C h hn hs ha hk' hc e1 e2 e3 ic =>
    refine ⟨fun n hn' i hk hb hels => ?_, nb h (by decide)⟩
    obtain ⟨k1, k2⟩ := lk_app.1 hk
    obtain ⟨k2, k3⟩ := lk_app.1 k2
    simp only [List.length_append, List.length_singleton] at hn' hb hels k2 k3 ⊢
    have k1 := lk_one.1 k1
    obtain ⟨n, rfl⟩ : ∃ q, n = q + 1 := ⟨n - 1, by omega⟩
    obtain ⟨a', g1, g2⟩ := ex_read ha k2 (by omega) (folB (blk_hd hk' hc k3))
    obtain ⟨c', g3, g4⟩ := ic.2 hk' n (by omega) _ k3 (by omega)
    have hN : i + (1 + (A.length + C.length)) = i + 1 + A.length + C.length := by omega
    rw [hN] at hels ⊢
    refine ⟨.mk ⟨23, 0, ⟨#[]⟩, frT ts i, toT ts (i + 1 + A.length + C.length - 1)⟩ [a', c', emB ts (i + 1 + A.length + C.length)], sm3 h.symm hn.symm hs.symm g1 g3 (sm0 e1.symm e2.symm e3.symm), ?_⟩
    have hf : frmG ts i = (23, [.sgn wIf, .sub 0, .sub 2, .els]) := by
      unfold frmG
      rw [if_neg (by rw [lke_isK k1]; decide), if_pos (by rw [lke_isK k1]; decide)]
    rw [sG, if_neg (by rw [lke_isK k1]; decide), hf]
    dsimp only
    rw [itG_sgn, if_pos (by rw [lke_isK k1]; decide), itG_sub, rr0, g2, if_pos rfl, itG_sub, rr2, g4, if_pos rfl, itG_els, if_neg (by rw [hels]; simp), itH]
    rfl
  | ife x a c e al cl el A C E h hn hs ha hk' hc he hel hE ic iE =>
    refine ⟨fun n hn' i hk hb _ => ?_, nb h (by decide)⟩
    obtain ⟨k1, k2⟩ := lk_app.1 hk
    obtain ⟨k2, k3⟩ := lk_app.1 k2
    obtain ⟨k3, k4⟩ := lk_app.1 k3
    obtain ⟨k4, k5⟩ := lk_app.1 k4
    simp only [List.length_append, List.length_singleton] at hn' hb k2 k3 k4 k5 ⊢
    have k1 := lk_one.1 k1; have k4 := lk_one.1 k4
    obtain ⟨n, rfl⟩ : ∃ q, n = q + 1 := ⟨n - 1, by omega⟩
    obtain ⟨a', g1, g2⟩ := ex_read ha k2 (by omega) (folB (blk_hd hk' hc k3))
    obtain ⟨c', g3, g4⟩ := ic.2 hk' n (by omega) _ k3 (by omega)
    obtain ⟨e', g5, g6⟩ := iE.2 he n (by omega) _ k5 (by omega)
    have hN : i + (1 + (A.length + (C.length + (1 + E.length)))) = i + 1 + A.length + C.length + 1 + E.length := by omega
    rw [hN]
    refine ⟨.mk ⟨23, 0, ⟨#[]⟩, frT ts i, toT ts (i + 1 + A.length + C.length + 1 + E.length - 1)⟩ [a', c', e'], sm3 h.symm hn.symm hs.symm g1 g3 g5, ?_⟩
    have hf : frmG ts i = (23, [.sgn wIf, .sub 0, .sub 2, .els]) := by
      unfold frmG
      rw [if_neg (by rw [lke_isK k1]; decide), if_pos (by rw [lke_isK k1]; decide)]
    rw [sG, if_neg (by rw [lke_isK k1]; decide), hf]
    dsimp only
    rw [itG_sgn, if_pos (by rw [lke_isK k1]; decide), itG_sub, rr0, g2, if_pos rfl, itG_sub, rr2, g4, if_pos rfl, itG_els, if_pos (by rw [lke_isK k4]; decide), rr2, g6, if_pos rfl, itH]
    rfl
  | whl x a c al cl A C h hn hs ha hk' hc ic =>
    refine ⟨fun n hn' i hk hb hels => ?_, nb h (by decide)⟩
    obtain ⟨k1, k2⟩ := lk_app.1 hk
    obtain ⟨k2, k3⟩ := lk_app.1 k2
    simp only [List.length_append, List.length_singleton] at hn' hb hels k2 k3 ⊢
    have k1 := lk_one.1 k1
    obtain ⟨n, rfl⟩ : ∃ q, n = q + 1 := ⟨n - 1, by omega⟩
    obtain ⟨a', g1, g2⟩ := ex_read ha k2 (by omega) (folB (blk_hd hk' hc k3))
    obtain ⟨c', g3, g4⟩ := ic.2 hk' n (by omega) _ k3 (by omega)
    have hN : i + (1 + (A.length + C.length)) = i + 1 + A.length + C.length := by omega
    rw [hN]
    refine ⟨.mk ⟨24, 0, ⟨#[]⟩, frT ts i, toT ts (i + 1 + A.length + C.length - 1)⟩ [a', c'], sm2 h.symm hn.symm hs.symm g1 g3, ?_⟩
    have hf : frmG ts i = (24, [.sgn wWhil, .sub 0, .sub 2]) := by
      unfold frmG
      rw [if_neg (by rw [lke_isK k1]; decide), if_neg (by rw [lke_isK k1]; decide), if_pos (by rw [lke_isK k1]; decide)]
    rw [sG, if_neg (by rw [lke_isK k1]; decide), hf]
    dsimp only
    rw [itG_sgn, if_pos (by rw [lke_isK k1]; decide), itG_sub, rr0, g2, if_pos rfl, itG_sub, rr2, g4, if_pos rfl, itH]
    rfl
  | frr x a b c al bl cl A B C h hn ha hb' hk' hc ic =>
    refine ⟨fun n hn' i hk hb _ => ?_, nb h (by decide)⟩
    obtain ⟨k1, k2⟩ := lk_app.1 hk
    obtain ⟨k2, k3⟩ := lk_app.1 k2
    obtain ⟨k3, k4⟩ := lk_app.1 k3
    obtain ⟨k4, k5⟩ := lk_app.1 k4
    obtain ⟨k5, k6⟩ := lk_app.1 k5
    obtain ⟨k6, k7⟩ := lk_app.1 k6
    simp only [List.length_append, List.length_singleton] at hn' hb k2 k3 k4 k5 k6 k7 ⊢
    have k1 := lk_one.1 k1; have k2 := lk_one.1 k2; have k3 := lk_one.1 k3; have k5 := lk_one.1 k5
    obtain ⟨n, rfl⟩ : ∃ q, n = q + 1 := ⟨n - 1, by omega⟩
    obtain ⟨a', g1, g2⟩ := ex_read ha k4 (by omega) (folT k5)
    obtain ⟨b', g3, g4⟩ := ex_read hb' k6 (by omega) (folB (blk_hd hk' hc k7))
    obtain ⟨c', g5, g6⟩ := ic.2 hk' n (by omega) _ k7 (by omega)
    have hN : i + (1 + (1 + (1 + (A.length + (1 + (B.length + C.length)))))) = i + 1 + 1 + 1 + A.length + 1 + B.length + C.length := by omega
    rw [hN]
    refine ⟨.mk ⟨25, 0, (nxt ts (i + 1)).s, frT ts i, toT ts (i + 1 + 1 + 1 + A.length + 1 + B.length + C.length - 1)⟩ [a', b', c'], sm3 h.symm hn.symm k2.s g1 g3 g5, ?_⟩
    have hf : frmG ts i = (25, [.sgn wFor, .nam, .sgn sIs, .sub 0, .sgn wTo, .sub 0, .sub 2]) := by
      unfold frmG
      rw [if_neg (by rw [lke_isK k1]; decide), if_neg (by rw [lke_isK k1]; decide), if_neg (by rw [lke_isK k1]; decide), if_pos (by rw [lke_isK k1]; decide)]
    rw [sG, if_neg (by rw [lke_isK k1]; decide), hf]
    dsimp only
    rw [itG_sgn, if_pos (by rw [lke_isK k1]; decide), itG_nam, if_pos (show (nxt ts (i + 1)).k = 1 from k2.k), itG_sgn, if_pos (by rw [lke_isK k3]; decide), itG_sub, rr0, g2, if_pos rfl, itG_sgn, if_pos (by rw [lke_isK k5]; decide), itG_sub, rr0, g4, if_pos rfl, itG_sub, rr2, g6, if_pos rfl, itH]
    rfl
  | prn x a al A h hn hs ha =>
    refine ⟨fun n hn' i hk hb _ => ?_, nb h (by decide)⟩
    obtain ⟨k1, k2⟩ := lk_app.1 hk
    obtain ⟨k2, k3⟩ := lk_app.1 k2
    simp only [List.length_append, List.length_singleton] at hn' hb k2 k3 ⊢
    have k1 := lk_one.1 k1; have k3 := lk_one.1 k3
    obtain ⟨n, rfl⟩ : ∃ q, n = q + 1 := ⟨n - 1, by omega⟩
    obtain ⟨a', g1, g2⟩ := ex_read ha k2 (by omega) (folE k3)
    have hN : i + (1 + (A.length + 1)) = i + 1 + A.length + 1 := by omega
    rw [hN]
    refine ⟨.mk ⟨26, 0, ⟨#[]⟩, frT ts i, toT ts (i + 1 + A.length + 1 - 1)⟩ [a'], sm1 h.symm hn.symm hs.symm g1, ?_⟩
    have hf : frmG ts i = (26, [.sgn wPrin, .sub 0, .sgn sEnd]) := by
      unfold frmG
      rw [if_neg (by rw [lke_isK k1]; decide), if_neg (by rw [lke_isK k1]; decide), if_neg (by rw [lke_isK k1]; decide), if_neg (by rw [lke_isK k1]; decide), if_pos (by rw [lke_isK k1]; decide)]
    rw [sG, if_neg (by rw [lke_isK k1]; decide), hf]
    dsimp only
    rw [itG_sgn, if_pos (by rw [lke_isK k1]; decide), itG_sub, rr0, g2, if_pos rfl, itG_sgn, if_pos (by rw [lke_isK k3]; decide), itH]
    rfl
  | rtn x a al A h hn hs ha =>
    refine ⟨fun n hn' i hk hb _ => ?_, nb h (by decide)⟩
    obtain ⟨k1, k2⟩ := lk_app.1 hk
    obtain ⟨k2, k3⟩ := lk_app.1 k2
    simp only [List.length_append, List.length_singleton] at hn' hb k2 k3 ⊢
    have k1 := lk_one.1 k1; have k3 := lk_one.1 k3
    obtain ⟨n, rfl⟩ : ∃ q, n = q + 1 := ⟨n - 1, by omega⟩
    obtain ⟨a', g1, g2⟩ := ex_read ha k2 (by omega) (folE k3)
    have hN : i + (1 + (A.length + 1)) = i + 1 + A.length + 1 := by omega
    rw [hN]
    refine ⟨.mk ⟨27, 0, ⟨#[]⟩, frT ts i, toT ts (i + 1 + A.length + 1 - 1)⟩ [a'], sm1 h.symm hn.symm hs.symm g1, ?_⟩
    have hf : frmG ts i = (27, [.sgn wRet, .sub 0, .sgn sEnd]) := by
      unfold frmG
      rw [if_neg (by rw [lke_isK k1]; decide), if_neg (by rw [lke_isK k1]; decide), if_neg (by rw [lke_isK k1]; decide), if_neg (by rw [lke_isK k1]; decide), if_neg (by rw [lke_isK k1]; decide), if_pos (by rw [lke_isK k1]; decide)]
    rw [sG, if_neg (by rw [lke_isK k1]; decide), hf]
    dsimp only
    rw [itG_sgn, if_pos (by rw [lke_isK k1]; decide), itG_sub, rr0, g2, if_pos rfl, itG_sgn, if_pos (by rw [lke_isK k3]; decide), itH]
    rfl
  | doo x a al A h hn hs ha =>
    refine ⟨fun n hn' i hk hb _ => ?_, nb h (by decide)⟩
    obtain ⟨k1, k2⟩ := lk_app.1 hk
    obtain ⟨k2, k3⟩ := lk_app.1 k2
    simp only [List.length_append, List.length_singleton] at hn' hb k2 k3 ⊢
    have k1 := lk_one.1 k1; have k3 := lk_one.1 k3
    obtain ⟨n, rfl⟩ : ∃ q, n = q + 1 := ⟨n - 1, by omega⟩
    obtain ⟨a', g1, g2⟩ := ex_read ha k2 (by omega) (folE k3)
    have hN : i + (1 + (A.length + 1)) = i + 1 + A.length + 1 := by omega
    rw [hN]
    refine ⟨.mk ⟨28, 0, ⟨#[]⟩, frT ts i, toT ts (i + 1 + A.length + 1 - 1)⟩ [a'], sm1 h.symm hn.symm hs.symm g1, ?_⟩
    have hf : frmG ts i = (28, [.sgn wDo, .sub 0, .sgn sEnd]) := by
      unfold frmG
      rw [if_neg (by rw [lke_isK k1]; decide), if_neg (by rw [lke_isK k1]; decide), if_neg (by rw [lke_isK k1]; decide), if_neg (by rw [lke_isK k1]; decide), if_neg (by rw [lke_isK k1]; decide), if_neg (by rw [lke_isK k1]; decide), if_pos (by rw [lke_isK k1]; decide)]
    rw [sG, if_neg (by rw [lke_isK k1]; decide), hf]
    dsimp only
    rw [itG_sgn, if_pos (by rw [lke_isK k1]; decide), itG_sub, rr0, g2, if_pos rfl, itG_sgn, if_pos (by rw [lke_isK k3]; decide), itH]
    rfl
end
end Go.Proofs.YtlkggpjdaaglmaaGreatDoor.am
end
