import Derived.Test.YtlkggpjdaaglmaaDoorPkE5
import Derived.Test.YtlkggpjdaaglmaaDoorPkE6
import Derived.Lib.ItoaLen
import Derived.Test.YtlkggpjdaaglmaaDoorPkE7
import Derived.Test.YtlkggpjdaaglmaaDoorProg
import Derived.Test.YtlkggpjdaaglmaaDoorPkE4
import Derived.Test.YtlkggpjdaaglmaaDoorPkE3
section
namespace Go.Proofs.YtlkggpjdaaglmaaDoor.lx
open Go.ChangeShapes Go.WideShapes Go.ChangeAt Go.RowKit
open bs
set_option linter.unusedVariables false
def Was (x : Tk) : Prop := ∃ (s : ByteArray) (i : Nat), s.size ≤ 8192 ∧ i < s.size ∧ on s i = (x, 0)
def bl : ByteArray := ⟨#[32]⟩
noncomputable def jn (M : List Tk) : Nat → ByteArray
  | 0 => ⟨#[]⟩
  | k + 1 => (if k = 0 then jn M k else jn M k ++ bl) ++ (match M[k]? with | some x => spell x | none => ⟨#[]⟩)
theorem jn_at {M : List Tk} {k : Nat} {x : Tk} (h : M[k]? = some x) : jn M (k + 1) = (if k = 0 then jn M k else jn M k ++ bl) ++ spell x := by
  show _ ++ (match M[k]? with | some x => spell x | none => ⟨#[]⟩) = _
  rw [h]
theorem txt_app (a b : ByteArray) : txt (a ++ b) = txt a ++ txt b := by
  unfold txt
  rw [ByteArray.data_append, Array.toList_append, List.map_append]
theorem size_app (a b : ByteArray) : (a ++ b).size = a.size + b.size := ByteArray.size_append
theorem b_left {a b : ByteArray} {i : Nat} (h : i < a.size) : B (a ++ b) i = B a i := by
  unfold B
  rw [txt_app, List.getD_eq_getElem?_getD, List.getD_eq_getElem?_getD, List.getElem?_append_left (by rw [txt_len]; exact h)]
theorem b_right {a b : ByteArray} {i : Nat} : B (a ++ b) (a.size + i) = B b i := by
  unfold B
  rw [txt_app, List.getD_eq_getElem?_getD, List.getD_eq_getElem?_getD, List.getElem?_append_right (by rw [txt_len]; omega), txt_len, show a.size + i - a.size = i by omega]
theorem app_nil' (a : ByteArray) : (⟨#[]⟩ : ByteArray) ++ a = a := by
  apply txt_inj
  rw [txt_app]
  rfl
noncomputable def hd (M : List Tk) (k : Nat) : ByteArray := if k = 0 then jn M k else jn M k ++ bl
theorem hd_size (M : List Tk) (k : Nat) : (hd M k).size = (jn M k).size + (if k = 0 then 0 else 1) := by
  unfold hd
  split
  · rfl
  · rw [size_app]; rfl
theorem jn_hd {M : List Tk} {k : Nat} {x : Tk} (h : M[k]? = some x) : jn M (k + 1) = hd M k ++ spell x := jn_at h
theorem jn_pre (M : List Tk) : ∀ (n k : Nat), k ≤ n → ∃ t, jn M n = jn M k ++ t := by
  intro n
  induction n with
  | zero => intro k h; exact ⟨⟨#[]⟩, by rw [show k = 0 by omega]; rfl⟩
  | succ n ih =>
    intro k h
    rcases Nat.eq_or_lt_of_le h with rfl | h
    · exact ⟨⟨#[]⟩, by apply txt_inj; rw [txt_app]; simp [txt]⟩
    · obtain ⟨t, ht⟩ := ih k (by omega)
      refine ⟨(if n = 0 then t else t ++ bl) ++ (match M[n]? with | some x => spell x | none => ⟨#[]⟩), ?_⟩
      show (if n = 0 then jn M n else jn M n ++ bl) ++ (match M[n]? with | some x => spell x | none => ⟨#[]⟩) = _
      apply txt_inj
      rw [txt_app, txt_app, txt_app]
      split
      · rw [ht, txt_app, List.append_assoc]
      · rw [ht, txt_app, txt_app, txt_app]
        simp only [List.append_assoc]
theorem jn_len_le (M : List Tk) {n k : Nat} (h : k ≤ n) : (jn M k).size ≤ (jn M n).size := by
  obtain ⟨t, ht⟩ := jn_pre M n k h
  rw [ht, size_app]
  omega
theorem jn_byte (M : List Tk) {n k : Nat} (h : k ≤ n) {i : Nat} (hi : i < (jn M k).size) : B (jn M n) i = B (jn M k) i := by
  obtain ⟨t, ht⟩ := jn_pre M n k h
  rw [ht, b_left hi]
theorem jn_on {M : List Tk} {k : Nat} {x : Tk} (hk : M[k]? = some x) (hw : Was x) : nx (jn M M.length) (jn M k).size = (hd M k).size ∧ (hd M k).size < (jn M M.length).size ∧
    on (jn M M.length) (hd M k).size = (⟨x.k, x.n, x.s, ((hd M k).size : Nat), ((jn M (k + 1)).size : Nat)⟩, 0) := by
  obtain ⟨s, i, _, hi, ho⟩ := hw
  have hkl := (List.getElem?_eq_some_iff.1 hk).1
  have e1 : (jn M (k + 1)).size = (hd M k).size + (spell x).size := by rw [jn_hd hk, size_app]
  have hle := jn_len_le M (show k + 1 ≤ M.length by omega)
  have hsub : (jn M M.length).extract (hd M k).size ((hd M k).size + (spell x).size) = spell x := by
    apply txt_inj
    apply List.ext_getElem?
    intro q
    rw [txt_cut, show (hd M k).size + (spell x).size - (hd M k).size = (spell x).size by omega, List.getElem?_take, List.getElem?_drop]
    by_cases hq : q < (spell x).size
    · rw [if_pos hq]
      have h1 : (hd M k).size + q < (txt (jn M M.length)).length := by rw [txt_len]; omega
      have h2 : q < (txt (spell x)).length := by rw [txt_len]; exact hq
      have h3 : B (jn M M.length) ((hd M k).size + q) = B (spell x) q := by
        rw [jn_byte M (show k + 1 ≤ M.length by omega) (by omega), jn_hd hk, b_right]
      unfold B at h3
      rw [List.getD_eq_getElem?_getD, List.getD_eq_getElem?_getD, List.getElem?_eq_getElem h1, List.getElem?_eq_getElem h2] at h3
      rw [List.getElem?_eq_getElem h1, List.getElem?_eq_getElem h2]
      exact congrArg some h3
    · rw [if_neg hq, List.getElem?_eq_none (by rw [txt_len]; omega)]
  have hstop : (hd M k).size + (spell x).size = (jn M M.length).size ∨ B (jn M M.length) ((hd M k).size + (spell x).size) = 32 := by
    by_cases hl : k + 1 = M.length
    · left; rw [← e1, hl]
    · right
      obtain ⟨y, hy⟩ : ∃ y, M[k + 1]? = some y := ⟨_, List.getElem?_eq_getElem (by omega)⟩
      have e2 : jn M (k + 1 + 1) = (jn M (k + 1) ++ bl) ++ spell y := by
        rw [jn_at hy, if_neg (by omega)]
      have h4 := jn_len_le M (show k + 1 + 1 ≤ M.length by omega)
      have h5 : (jn M (k + 1 + 1)).size = (jn M (k + 1)).size + 1 + (spell y).size := by rw [e2, size_app, size_app]; rfl
      rw [← e1, jn_byte M (show k + 1 + 1 ≤ M.length by omega) (by omega), e2, b_left (by rw [size_app]; show _ < _ + 1; omega)]
      have this : B (jn M (k + 1) ++ bl) (jn M (k + 1)).size = B bl 0 := b_right (a := jn M (k + 1)) (b := bl) (i := 0)
      rw [this]
      decide
  obtain ⟨h1, h2, h3, h4⟩ := on_like hi ho (out := jn M M.length) (p := (hd M k).size) (by omega) hsub hstop
  have hlt : (hd M k).size < (jn M M.length).size := by omega
  refine ⟨?_, hlt, by rw [h1, e1]⟩
  have hst : nx (jn M M.length) (hd M k).size = (hd M k).size := nx_stop h2 h3
  by_cases h0 : k = 0
  · have e3 : (hd M k).size = (jn M k).size := by rw [hd_size, if_pos h0]; rfl
    rw [← e3]
    exact hst
  · have e3 : (hd M k).size = (jn M k).size + 1 := by rw [hd_size, if_neg h0]
    have hb : B (jn M M.length) (jn M k).size = 32 := by
      rw [jn_byte M (show k + 1 ≤ M.length by omega) (by omega), jn_hd hk, b_left (by omega)]
      unfold hd
      rw [if_neg h0]
      have this : B (jn M k ++ bl) (jn M k).size = B bl 0 := b_right (a := jn M k) (b := bl) (i := 0)
      rw [this]
      decide
    rw [nx_blank (by omega) (by rw [hb]; decide), ← e3]
    exact hst
def Alk (x y : Tk) : Prop := x.k = y.k ∧ x.n = y.n ∧ x.s = y.s
theorem jn_toks (M : List Tk) (hw : ∀ x ∈ M, Was x) : ∀ k, k ≤ M.length → ∃ L' : List Tk, L'.length = k ∧ (∀ (i : Nat) (x y : Tk), L'[i]? = some x → M[i]? = some y → Alk x y) ∧ app L' (toks (jn M M.length) (jn M k).size) = toks (jn M M.length) 0 := by
  intro k
  induction k with
  | zero => intro _; exact ⟨[], rfl, fun i x y h => by simp at h, app_nil _⟩
  | succ k ih =>
    intro hk
    obtain ⟨L', hl, ha, he⟩ := ih (by omega)
    have hx : M[k]? = some (M[k]'(by omega)) := List.getElem?_eq_getElem _
    obtain ⟨h1, h2, h3⟩ := jn_on hx (hw _ (List.getElem_mem _))
    have hle := jn_len_le M (show k ≤ M.length by omega)
    refine ⟨L' ++ [⟨M[k].k, M[k].n, M[k].s, ((hd M k).size : Nat), ((jn M (k + 1)).size : Nat)⟩], by simp [hl], fun i x y hi hy => ?_, ?_⟩
    · rcases Nat.lt_or_ge i L'.length with h | h
      · rw [List.getElem?_append_left h] at hi
        exact ha i x y hi hy
      · rw [List.getElem?_append_right h] at hi
        have hi0 : i = k := by
          have := (List.getElem?_eq_some_iff.1 hi).1
          simp at this
          omega
        subst hi0
        rw [hl, Nat.sub_self, List.getElem?_cons_zero] at hi
        rw [hx] at hy
        have e1 := Option.some.inj hi
        have e2 := Option.some.inj hy
        subst e1
        subst e2
        exact ⟨rfl, rfl, rfl⟩
    · have e := app_step (s := jn M M.length) (i := (jn M k).size) (L := L') (by rw [h1]; exact h2) hle (by rw [h1, h3])
      rw [h1, h3] at e
      rw [← he, e]
      rfl
theorem jn_tokens (M : List Tk) (hw : ∀ x ∈ M, Was x) (h8 : (jn M M.length).size ≤ 8192) : ∃ L' : List Tk, L'.length = M.length ∧ (∀ (i : Nat) (x y : Tk), L'[i]? = some x → M[i]? = some y → Alk x y) ∧ tokens (jn M M.length) = (L' ++ [tkEnd (jn M M.length)], 0, 0) := by
  obtain ⟨L', hl, ha, he⟩ := jn_toks M hw M.length (Nat.le_refl _)
  refine ⟨L', hl, ha, ?_⟩
  unfold tokens
  rw [if_neg (by omega), ← he, app_end (by rw [nx_end (Nat.le_refl _)]; exact Nat.le_refl _)]
end Go.Proofs.YtlkggpjdaaglmaaDoor.lx
end
section
namespace Go.Proofs.YtlkggpjdaaglmaaDoor.am
open vt
set_option linter.unusedVariables false
def Wz (y : Tok) : Prop := ∃ x : lx.Tk, lx.Was x ∧ x.k = y.k ∧ x.n = y.n ∧ x.s = y.s
theorem wz_kwd {s : ByteArray} {n : Nat} (h : lx.on s 0 = (⟨quo s, 0, s, 0, n⟩, 0)) (h0 : 0 < s.size) (h1 : s.size ≤ 8192) : Wz (kwd s) := ⟨_, ⟨s, 0, h1, h0, h⟩, rfl, rfl, rfl⟩
theorem wz_true : Wz (kwd wTrue) := wz_kwd (n := 4) (by kernel_rfl) (by decide) (by decide)
theorem wz_fals : Wz (kwd wFals) := wz_kwd (n := 5) (by kernel_rfl) (by decide) (by decide)
theorem wz_read : Wz (kwd wRead) := wz_kwd (n := 4) (by kernel_rfl) (by decide) (by decide)
theorem wz_new : Wz (kwd wNew) := wz_kwd (n := 3) (by kernel_rfl) (by decide) (by decide)
theorem wz_min : Wz (kwd sMin) := wz_kwd (n := 1) (by kernel_rfl) (by decide) (by decide)
theorem wz_not : Wz (kwd sNot) := wz_kwd (n := 1) (by kernel_rfl) (by decide) (by decide)
theorem wz_open : Wz (kwd sOpen) := wz_kwd (n := 1) (by kernel_rfl) (by decide) (by decide)
theorem wz_shut : Wz (kwd sShut) := wz_kwd (n := 1) (by kernel_rfl) (by decide) (by decide)
theorem wz_dot : Wz (kwd sDot) := wz_kwd (n := 1) (by kernel_rfl) (by decide) (by decide)
theorem wz_com : Wz (kwd sCom) := wz_kwd (n := 1) (by kernel_rfl) (by decide) (by decide)
theorem wz_paro : Wz (kwd sParO) := wz_kwd (n := 1) (by kernel_rfl) (by decide) (by decide)
theorem wz_pars : Wz (kwd sParS) := wz_kwd (n := 1) (by kernel_rfl) (by decide) (by decide)
theorem wz_at : Wz (kwd sAt) := wz_kwd (n := 1) (by kernel_rfl) (by decide) (by decide)
theorem wz_op {n : Int} (h1 : 1 ≤ n) (h2 : n ≤ 13) : Wz (kwd (opB n).1) := by
  have : n = 1 ∨ n = 2 ∨ n = 3 ∨ n = 4 ∨ n = 5 ∨ n = 6 ∨ n = 7 ∨ n = 8 ∨ n = 9 ∨ n = 10 ∨ n = 11 ∨ n = 12 ∨ n = 13 := by omega
  rcases this with rfl | rfl | rfl | rfl | rfl | rfl | rfl | rfl | rfl | rfl | rfl | rfl | rfl
  · exact wz_kwd (n := 2) (by kernel_rfl) (by decide) (by decide)
  · exact wz_kwd (n := 2) (by kernel_rfl) (by decide) (by decide)
  · exact wz_kwd (n := 2) (by kernel_rfl) (by decide) (by decide)
  · exact wz_kwd (n := 2) (by kernel_rfl) (by decide) (by decide)
  · exact wz_kwd (n := 1) (by kernel_rfl) (by decide) (by decide)
  · exact wz_kwd (n := 2) (by kernel_rfl) (by decide) (by decide)
  · exact wz_kwd (n := 1) (by kernel_rfl) (by decide) (by decide)
  · exact wz_kwd (n := 2) (by kernel_rfl) (by decide) (by decide)
  · exact wz_kwd (n := 1) (by kernel_rfl) (by decide) (by decide)
  · exact wz_kwd (n := 1) (by kernel_rfl) (by decide) (by decide)
  · exact wz_kwd (n := 1) (by kernel_rfl) (by decide) (by decide)
  · exact wz_kwd (n := 1) (by kernel_rfl) (by decide) (by decide)
  · exact wz_kwd (n := 1) (by kernel_rfl) (by decide) (by decide)
def TkW (ts : List Tok) : Prop := ∀ j, ((nxt ts j).k = 1 → Wz (nmT (nxt ts j).s)) ∧ ((nxt ts j).k = 2 → Wz (nbT (nxt ts j).n) ∧ 0 ≤ (nxt ts j).n ∧ (nxt ts j).n ≤ 9223372036854775807)
def AllW (M : List Tok) : Prop := ∀ y ∈ M, Wz y
theorem alw_app {A B : List Tok} : AllW (A ++ B) ↔ AllW A ∧ AllW B := ⟨fun h => ⟨fun w hw => h w (List.mem_append_left _ hw), fun w hw => h w (List.mem_append_right _ hw)⟩, fun h w hw => (List.mem_append.1 hw).elim (h.1 w) (h.2 w)⟩
theorem alw_one {y : Tok} (h : Wz y) : AllW [y] := fun z hz => by rw [List.mem_singleton.1 hz]; exact h
theorem alw_par {b : Int} {A : List Tok} {n : Int} (h : AllW A) : AllW (parK b A n) := by
  unfold parK
  split
  · exact h
  · exact alw_app.2 ⟨alw_app.2 ⟨alw_one wz_paro, h⟩, alw_one wz_pars⟩
theorem alw_pre : ∀ (Ms : List (List Tok)), (∀ M ∈ Ms, AllW M) → AllW (preK [kwd sCom] Ms)
  | [], _ => fun y hy => by cases hy
  | [M], h => by
    have : preK [kwd sCom] [M] = M := by simp [preK]
    rw [this]; exact h M (.head _)
  | M :: M2 :: r, h => by
    rw [preK_two]
    exact alw_app.2 ⟨h M (.head _), alw_app.2 ⟨alw_one wz_com, alw_pre (M2 :: r) (fun N hN => h N (.tail _ hN))⟩⟩
section
variable {ts : List Tok}
theorem lpC_ne {E : Nat → Got} : ∀ (m i : Nat) (acc : List VT), (lpC ts E m i acc).2.2 = 0 → (lpC ts E m i acc).1 ≠ []
  | 0, i, acc, h => by simp [lpC] at h
  | m + 1, i, acc, h => by
    unfold lpC at h ⊢
    split
    · rename_i c; rw [if_pos c] at h; exact absurd h c
    rename_i c; rw [if_neg c] at h
    split
    · simp
    · rename_i c2; rw [if_neg c2] at h
      exact lpC_ne m _ _ h
theorem cloG_ne {E : Nat → Got} {o : Nat} {fs ls : ByteArray} (h : (cloG ts E o false fs ls).2.2 = 0) : (cloG ts E o false fs ls).1 ≠ [] := by
  unfold cloG at h ⊢
  split
  · rename_i c; rw [if_pos c] at h; exact absurd (show (6 : Int) = 0 from h) (by decide)
  rename_i c; rw [if_neg c] at h
  split
  · rename_i c2; exact absurd c2.1 (by decide)
  rename_i c2; rw [if_neg c2] at h
  split
  · rename_i c3; rw [if_pos c3] at h; exact absurd h c3
  rename_i c3; rw [if_neg c3] at h
  have c3 : (lpC ts E (ts.length + 1) (o + 1) []).2.2 = 0 := by simpa using c3
  split
  · rename_i c4; rw [if_pos c4] at h; exact absurd (show (6 : Int) = 0 from h) (by decide)
  · exact lpC_ne _ _ _ c3
end
end Go.Proofs.YtlkggpjdaaglmaaDoor.am
end
section
namespace Go.Proofs.YtlkggpjdaaglmaaDoor.am
open vt
set_option linter.unusedVariables false
theorem on_facts {s : ByteArray} {i : Nat} (hs : s.size ≤ 8192) (hi : i < s.size) (h : (lx.on s i).2 = 0) : ((lx.on s i).1.k = 1 ∨ (lx.on s i).1.k = 2 ∨ (lx.on s i).1.k = 3 ∨ (lx.on s i).1.k = 4) ∧ (lx.on s i).1.s.size ≤ 8192 ∧ ((lx.on s i).1.k = 1 → (lx.on s i).1.n = 0) ∧ ((lx.on s i).1.k = 2 → (lx.on s i).1.s = ⟨#[]⟩ ∧ 0 ≤ (lx.on s i).1.n ∧ (lx.on s i).1.n ≤ 9223372036854775807) := by
  have hx : ∀ a b, (s.extract a b).size ≤ 8192 := fun a b => by rw [ByteArray.size_extract]; omega
  by_cases hL : lx.isL (lx.B s i) = true
  · by_cases h2 : 16 < lx.run lx.isN s i - i
    · rw [lx.tk_long hL h2] at h; simp at h
    · rw [lx.tk_name hL h2]
      refine ⟨?_, hx _ _, fun _ => rfl, fun e => ?_⟩
      · dsimp only; split
        · exact .inr (.inr (.inl rfl))
        · exact .inl rfl
      · dsimp only at e; split at e <;> exact absurd e (by decide)
  · have hL : lx.isL (lx.B s i) = false := by simpa using hL
    by_cases hD : lx.isD (lx.B s i) = true
    · cases hn : lx.num (s.extract i (lx.run lx.isD s i)) with
      | none => rw [lx.tk_nonum hL hD hn] at h; simp at h
      | some n =>
        rw [lx.tk_number hL hD hn]
        have := (lx.num_spell (lx.dig_cut (Nat.le_of_lt hi)) hn).2
        exact ⟨.inr (.inl rfl), (show (⟨#[]⟩ : ByteArray).size ≤ 8192 by decide), fun e => absurd (show (2 : Int) = 1 from e) (by decide), fun _ => ⟨rfl, this.1, this.2⟩⟩
    · have hD : lx.isD (lx.B s i) = false := by simpa using hD
      by_cases hsg : lx.sgN s i = 0
      · rw [lx.tk_none hL hD hsg] at h; simp at h
      · rw [lx.tk_sign hL hD hsg]
        exact ⟨.inr (.inr (.inr rfl)), hx _ _, fun e => absurd (show (4 : Int) = 1 from e) (by decide), fun e => absurd (show (4 : Int) = 2 from e) (by decide)⟩
theorem toks_was (s : ByteArray) : ∀ n i, s.size - i ≤ n → i ≤ s.size → ∀ x ∈ (lx.toks s i).1, x = lx.tkEnd s ∨ ∃ j, j < s.size ∧ lx.on s j = (x, 0) := by
  intro n
  induction n with
  | zero =>
    intro i hn hi x hx'
    have hnx := lx.nx_le hi
    rw [lx.toks, dif_neg (by omega)] at hx'
    exact .inl (List.mem_singleton.1 hx')
  | succ n ih =>
    intro i hn hi x hx'
    have hnx := lx.nx_le hi
    by_cases h1 : lx.nx s i < s.size; rotate_left
    · rw [lx.toks, dif_neg (by omega)] at hx'
      exact .inl (List.mem_singleton.1 hx')
    by_cases h2 : (lx.on s (lx.nx s i)).2 = 0; rotate_left
    · rw [lx.toks, dif_pos ⟨h1, hi⟩, dif_neg h2] at hx'
      cases hx'
    obtain ⟨hf, j, hj, hlt, hle⟩ := lx.on_to h1 h2
    rw [lx.toks, dif_pos ⟨h1, hi⟩, dif_pos h2] at hx'
    simp only at hx'
    have hone : lx.on s (lx.nx s i) = ((lx.on s (lx.nx s i)).1, 0) := Prod.ext rfl h2
    obtain ⟨y, hy⟩ : ∃ y, (lx.on s (lx.nx s i)).1 = y := ⟨_, rfl⟩
    rw [hy] at hj hx' hone
    have hjt : y.t.toNat = j := by rw [hj]; simp
    rw [hjt] at hx'
    by_cases h3 : (lx.toks s j).2.2 = 0
    · rw [if_pos h3] at hx'
      rcases List.mem_cons.1 hx' with rfl | hx'
      · exact .inr ⟨_, h1, hone⟩
      · exact ih j (by omega) hle x hx'
    · rw [if_neg h3] at hx'
      exact ih j (by omega) hle x hx'
theorem tok_tkw {s : ByteArray} (h : (tokG s).2.2 = 0) : TkW (tokG s).1 := by
  intro j
  rcases Nat.lt_or_ge j (tokG s).1.length with hj | hj
  · have hx : (tokG s).1[j]? = some ((tokG s).1[j]'hj) := List.getElem?_eq_getElem hj
    rw [nxt_some hx]
    have hm := List.getElem_mem hj
    generalize (tokG s).1[j]'hj = y at hm
    unfold tokG lx.tokens at hm h
    by_cases hb : 8192 < s.size
    · rw [if_pos hb] at h; exact absurd (show (3 : Int) = 0 from h) (by decide)
    rw [if_neg hb] at hm
    obtain ⟨z, hz, rfl⟩ := List.mem_map.1 hm
    rcases toks_was s s.size 0 (Nat.sub_le _ _) (Nat.zero_le _) z hz with rfl | ⟨i, hi, ho⟩
    · exact ⟨fun e => absurd (show (5 : Int) = 1 from e) (by decide), fun e => absurd (show (5 : Int) = 2 from e) (by decide)⟩
    · have hf := on_facts (s := s) (i := i) (by omega) hi (by rw [ho])
      rw [ho] at hf
      dsimp only at hf
      have hw : lx.Was z := ⟨s, i, by omega, hi, ho⟩
      exact ⟨fun e => ⟨z, hw, e, hf.2.2.1 e, rfl⟩, fun e => ⟨⟨z, hw, e, rfl, (hf.2.2.2 e).1⟩, (hf.2.2.2 e).2.1, (hf.2.2.2 e).2.2⟩⟩
  · rw [nxt_none hj]
    exact ⟨fun e => absurd (show (5 : Int) = 1 from e) (by decide), fun e => absurd (show (5 : Int) = 2 from e) (by decide)⟩
theorem wz_size {y : Tok} (h : Wz y) : y.s.size ≤ 8192 := by
  obtain ⟨x, ⟨s, i, h1, h2, h3⟩, _, _, e⟩ := h
  have := (on_facts h1 h2 (by rw [h3])).2.1
  rw [h3] at this
  rw [← e]; exact this
noncomputable def spT (y : Tok) : ByteArray := if y.k = 2 then wNum y.n else y.s
theorem sp_kwd (s : ByteArray) : spT (kwd s) = s := by
  unfold spT kwd
  have : ¬ quo s = 2 := by rcases quo_34 s with h | h <;> rw [h] <;> decide
  rw [if_neg this]
theorem sp_nm (s : ByteArray) : spT (nmT s) = s := if_neg (show ¬ (1 : Int) = 2 by decide)
theorem sp_nb (n : Int) : spT (nbT n) = wNum n := if_pos rfl
theorem par_map {b : Int} {A : List Tok} {n : Int} : (parK b A n).map spT = par b (A.map spT) n := by
  unfold parK par
  split
  · rfl
  · simp [sp_kwd]
theorem pre_map (Ms : List (List Tok)) : (preK [kwd sCom] Ms).map spT = pre [sCom] (Ms.map (List.map spT)) := by
  cases Ms with
  | nil => rfl
  | cons a r =>
    unfold preK pre
    simp only [List.map_cons, List.map_append, List.map_flatten, List.map_map]
    congr 3
theorem pre_all {Ms : List (List Tok)} (h : AllW (preK [kwd sCom] Ms)) : ∀ M ∈ Ms, AllW M := by
  cases Ms with
  | nil => intro M hM; cases hM
  | cons a r =>
    unfold preK at h
    intro M hM
    rcases List.mem_cons.1 hM with rfl | hM
    · exact (alw_app.1 h).1
    · intro y hy
      refine (alw_app.1 h).2 y ?_
      rw [List.mem_flatten]
      exact ⟨_, List.mem_map.2 ⟨M, hM, rfl⟩, List.mem_append_right _ hy⟩
theorem par_all {b : Int} {A : List Tok} {n : Int} (h : AllW (parK b A n)) : AllW A := by
  unfold parK at h
  split at h
  · exact h
  · exact (alw_app.1 (alw_app.1 h).1).2
theorem ke_we {t : VT} {M : List Tok} (h : KE t M) : AllW M → WE t (M.map spT) := by
  have ls : ∀ {l : List VT} {Ms : List (List Tok)}, l.length = Ms.length → AllW (preK [kwd sCom] Ms) → (∀ (i : Nat) t M, l[i]? = some t → Ms[i]? = some M → AllW M → WE t (M.map spT)) → l.length = (Ms.map (List.map spT)).length ∧ ∀ (i : Nat) t W, l[i]? = some t → (Ms.map (List.map spT))[i]? = some W → WE t W := fun {l Ms} hl ha ih => by
    refine ⟨by rw [List.length_map]; exact hl, fun i t W a b => ?_⟩
    rw [List.getElem?_map] at b
    obtain ⟨M, hM, rfl⟩ := Option.map_eq_some_iff.1 b
    exact ih i t M a hM (pre_all ha M (List.mem_of_getElem? hM))
  induction h with
  | num x h hs h0 h1 => intro _; rw [List.map_cons, List.map_nil, sp_nb]; exact .num x h (by omega) h1
  | tru x h hn hs => intro _; rw [List.map_cons, List.map_nil, sp_kwd]; exact .tru x h hn
  | fls x h hn hs => intro _; rw [List.map_cons, List.map_nil, sp_kwd]; exact .fls x h hn
  | read x h hn hs => intro _; rw [List.map_cons, List.map_nil, sp_kwd]; exact .read x h
  | nam x h hn => intro ha; rw [List.map_cons, List.map_nil, sp_nm]; exact .nam x h (wz_size (ha _ (.head _)))
  | bin x a c al cl A C h hs h1 h2 ha hc ia ic =>
    intro hw
    obtain ⟨w1, w2⟩ := alw_app.1 hw
    obtain ⟨w2, w3⟩ := alw_app.1 w2
    simp only [List.map_append, List.map_cons, List.map_nil, par_map, sp_kwd]
    exact .bin x a c al cl _ _ h h1 h2 (ia (par_all w1)) (ic (par_all w3))
  | neg x a al A h hn hs ha ia =>
    intro hw
    obtain ⟨w1, w2⟩ := alw_app.1 hw
    simp only [List.map_append, List.map_cons, List.map_nil, par_map, sp_kwd]
    exact .neg x a al _ h hn (ia (par_all w2))
  | nt x a al A h hn hs ha ia =>
    intro hw
    obtain ⟨w1, w2⟩ := alw_app.1 hw
    simp only [List.map_append, List.map_cons, List.map_nil, par_map, sp_kwd]
    exact .nt x a al _ h hn (ia (par_all w2))
  | idx x a c al cl A C h hn hs ha hc ia ic =>
    intro hw
    obtain ⟨w1, w2⟩ := alw_app.1 hw
    obtain ⟨w2, w3⟩ := alw_app.1 w2
    obtain ⟨w3, w4⟩ := alw_app.1 w3
    simp only [List.map_append, List.map_cons, List.map_nil, par_map, sp_kwd]
    exact .idx x a c al cl _ _ h (ia (par_all w1)) (ic w3)
  | fld x a al A h hn ha ia =>
    intro hw
    obtain ⟨w1, w2⟩ := alw_app.1 hw
    obtain ⟨w2, w3⟩ := alw_app.1 w2
    simp only [List.map_append, List.map_cons, List.map_nil, par_map, sp_kwd, sp_nm]
    exact .fld x a al _ h (wz_size (w3 _ (.head _))) (ia (par_all w1))
  | lst x l Ms h hn hs h0 hl hw ih =>
    intro ha
    obtain ⟨w1, w2⟩ := alw_app.1 ha
    obtain ⟨g1, g2⟩ := ls hl (alw_app.1 w2).1 ih
    simp only [List.map_append, List.map_cons, List.map_nil, pre_map, sp_kwd]
    exact .lst x l _ h g1 g2
  | mak x l Ms h hn h0 hl hw ih =>
    intro ha
    obtain ⟨w1, w2⟩ := alw_app.1 ha
    obtain ⟨w2, w3⟩ := alw_app.1 w2
    obtain ⟨w3, w4⟩ := alw_app.1 w3
    obtain ⟨g1, g2⟩ := ls hl (alw_app.1 w4).1 ih
    simp only [List.map_append, List.map_cons, List.map_nil, pre_map, sp_kwd, sp_nm]
    exact .mak x l _ h (wz_size (w2 _ (.head _))) g1 g2
  | cal x l Ms h hn hl hw ih =>
    intro ha
    obtain ⟨w2, w3⟩ := alw_app.1 ha
    obtain ⟨w3, w4⟩ := alw_app.1 w3
    obtain ⟨g1, g2⟩ := ls hl (alw_app.1 w4).1 ih
    simp only [List.map_append, List.map_cons, List.map_nil, pre_map, sp_kwd, sp_nm]
    exact .cal x l _ h (wz_size (w2 _ (.head _))) g1 g2
  | ext x l Ms h hn hl hw ih =>
    intro ha
    obtain ⟨w1, w2⟩ := alw_app.1 ha
    obtain ⟨w2, w3⟩ := alw_app.1 w2
    obtain ⟨w3, w4⟩ := alw_app.1 w3
    obtain ⟨g1, g2⟩ := ls hl (alw_app.1 w4).1 ih
    simp only [List.map_append, List.map_cons, List.map_nil, pre_map, sp_kwd, sp_nm]
    exact .ext x l _ h (wz_size (w2 _ (.head _))) g1 g2
theorem jn_J (L : List lx.Tk) : ∀ k, k ≤ L.length → lx.jn L k = J ((L.take k).map lx.spell)
  | 0, _ => rfl
  | k + 1, hk => by
    have hx : L[k]? = some (L[k]'(by omega)) := List.getElem?_eq_getElem _
    rw [lx.jn_at hx, jn_J L k (by omega), List.take_add_one, hx, List.map_append]
    by_cases h0 : k = 0
    · subst h0
      rw [if_pos rfl]
      show J [] ++ _ = J ([] ++ [lx.spell _])
      rw [J_nil, List.nil_append, J_one, lx.app_nil']
    · rw [if_neg h0]
      show _ = J ((L.take k).map lx.spell ++ [lx.spell (L[k]'(by omega))])
      have hne : (L.take k).map lx.spell ≠ [] := fun e => by
        have := congrArg List.length e
        rw [List.length_map, List.length_take, Nat.min_eq_left (by omega)] at this
        simp at this; omega
      rw [J_app hne (by simp), J_one]
      rfl
theorem J_toks {M : List Tok} (h : AllW M) (h8 : (J (M.map spT)).size ≤ 8192) : (tokG (J (M.map spT))).2.2 = 0 ∧ (tokG (J (M.map spT))).1.length = M.length + 1 ∧ Lk (tokG (J (M.map spT))).1 0 M ∧ nxt (tokG (J (M.map spT))).1 M.length = enT (J (M.map spT)) := by
  obtain ⟨L, hL, hq⟩ := bs.choose_list M.length (fun i (x : lx.Tk) => ∃ y, M[i]? = some y ∧ lx.Was x ∧ x.k = y.k ∧ x.n = y.n ∧ x.s = y.s) (fun i hi => by
    obtain ⟨x, a, b, c, d⟩ := h _ (List.getElem_mem hi)
    exact ⟨x, _, List.getElem?_eq_getElem hi, a, b, c, d⟩)
  have hsp : L.map lx.spell = M.map spT := by
    apply List.ext_getElem?
    intro i
    rw [List.getElem?_map, List.getElem?_map]
    by_cases hi : i < L.length
    · have hx : L[i]? = some (L[i]'hi) := List.getElem?_eq_getElem hi
      obtain ⟨y, e1, ⟨s, j, g1, g2, g3⟩, e3, e4, e5⟩ := hq i _ hx
      rw [hx, e1]
      show some _ = some _
      have hf := on_facts g1 g2 (by rw [g3])
      rw [g3] at hf
      dsimp only at hf
      congr 1
      unfold lx.spell spT
      rw [← e3, ← e4, ← e5]
      rcases hf.1 with e | e | e | e
      · rw [if_pos (.inl e), if_neg (by omega)]
      · rw [if_neg (by omega), if_pos e, if_pos e]
      · rw [if_pos (.inr (.inl e)), if_neg (by omega)]
      · rw [if_pos (.inr (.inr e)), if_neg (by omega)]
    · rw [List.getElem?_eq_none (by omega), List.getElem?_eq_none (by omega)]; rfl
  have hJ : lx.jn L L.length = J (M.map spT) := by rw [jn_J L L.length (Nat.le_refl _), List.take_length, hsp]
  obtain ⟨L', l1, l2, l3⟩ := lx.jn_tokens L (fun x hx => by
    obtain ⟨i, hi⟩ := List.mem_iff_getElem?.1 hx
    obtain ⟨y, _, w, _⟩ := hq i x hi
    exact w) (by rw [hJ]; exact h8)
  rw [hJ] at l3
  have ht : tokG (J (M.map spT)) = (L'.map tkT ++ [enT (J (M.map spT))], 0, 0) := by
    unfold tokG
    rw [l3]
    simp only [List.map_append, List.map_cons, List.map_nil]
    rfl
  rw [ht]
  have hlen : (L'.map tkT).length = M.length := by rw [List.length_map, l1, hL]
  refine ⟨rfl, by rw [List.length_append, hlen]; rfl, fun j y hy => ?_, ?_⟩
  · have hj := (List.getElem?_eq_some_iff.1 hy).1
    rw [Nat.zero_add]
    have hx' : L'[j]? = some (L'[j]'(by omega)) := List.getElem?_eq_getElem _
    have hx : L[j]? = some (L[j]'(by omega)) := List.getElem?_eq_getElem _
    obtain ⟨a1, a2, a3⟩ := l2 j _ _ hx' hx
    obtain ⟨y', e1, _, e3, e4, e5⟩ := hq j _ hx
    rw [hy] at e1; cases e1
    have hn : nxt (L'.map tkT ++ [enT (J (M.map spT))]) j = tkT (L'[j]'(by omega)) := nxt_some (by rw [List.getElem?_append_left (by omega), List.getElem?_map, hx']; rfl)
    show Lke (nxt (L'.map tkT ++ [enT (J (M.map spT))]) j) y
    rw [hn]
    exact ⟨a1.trans e3, a2.trans e4, a3.trans e5⟩
  · show nxt (L'.map tkT ++ [enT (J (M.map spT))]) M.length = _
    exact nxt_some (by rw [List.getElem?_append_right (by omega), hlen, Nat.sub_self]; rfl)
theorem ke_back {t : VT} {M : List Tok} (h : KE t M) (ha : AllW M) (h8 : (J (M.map spT)).size ≤ 8192) : (tokG (J (M.map spT))).2.2 = 0 ∧ (tokG (J (M.map spT))).1.length = M.length + 1 ∧ ∃ t', Sm t' t ∧ Qx (tokG (J (M.map spT))).1 1 0 = (t', M.length, 0) := by
  obtain ⟨a, b, c, d⟩ := J_toks ha h8
  refine ⟨a, b, ?_⟩
  obtain ⟨t', g1, g2⟩ := ke_read h 0 c (by omega)
  rw [Nat.zero_add] at g2
  have ht := ke_tgh h
  refine ⟨t', g1, red_fin g2 (by omega) (by decide) (by omega) (by decide) ?_⟩
  rw [d]
  exact ⟨fun w h1 h2 => by show (6 : Nat) ≠ w; omega, by unfold isK enT; rfl, by unfold isK enT; rfl, by unfold isK enT; rfl⟩
end Go.Proofs.YtlkggpjdaaglmaaDoor.am
end
section
namespace Go.Proofs.YtlkggpjdaaglmaaDoor.am
open vt
set_option linter.unusedVariables false
noncomputable def mz (M : List Tok) : Nat := (M.map fun y => (spT y).size + 1).sum
theorem mz_app (A B : List Tok) : mz (A ++ B) = mz A + mz B := by simp [mz]
theorem mz_one (y : Tok) : mz [y] = (spT y).size + 1 := by simp [mz]
theorem mz_kwd (s : ByteArray) : mz [kwd s] = s.size + 1 := by rw [mz_one, sp_kwd]
theorem mz_par {b : Int} {A : List Tok} {n : Int} : mz (parK b A n) ≤ mz A + 4 := by
  unfold parK
  split
  · omega
  · rw [mz_app, mz_app, mz_kwd, mz_kwd]
    have h1 : sParO.size = 1 := rfl
    have h2 : sParS.size = 1 := rfl
    omega
theorem mz_preK : ∀ (M M2 : List Tok) (r : List (List Tok)), mz (preK [kwd sCom] (M :: M2 :: r)) = mz M + 2 + mz (preK [kwd sCom] (M2 :: r)) := fun M M2 r => by
  rw [preK_two, mz_app, mz_app, mz_kwd]
  have h1 : sCom.size = 1 := rfl
  omega
noncomputable def Pf (ts : List Tok) : Nat → Nat
  | 0 => 0
  | j + 1 => Pf ts j + (spT (nxt ts j)).size + 10
def KY (ts : List Tok) (i : Nat) (x : VT) (N : Nat) : Prop := ∃ M, KE x M ∧ AllW M ∧ mz M + 4 + Pf ts i ≤ Pf ts N
section
variable {ts : List Tok}
theorem pf_succ (j : Nat) : Pf ts (j + 1) = Pf ts j + (spT (nxt ts j)).size + 10 := rfl
theorem lpL_ky {P : Nat → Got} {l a : Nat} (hl : l ≤ 5) (hP : ∀ i, (P i).2.2 = 0 → KY ts i (P i).1 (P i).2.1) : ∀ (m : Nat) (t : Bool) (x : Got), (x.2.2 = 0 → KY ts a x.1 x.2.1) → (lpL ts P l a m t x).2.2 = 0 → KY ts a (lpL ts P l a m t x).1 (lpL ts P l a m t x).2.1
  | 0, t, x, hx, h => hx h
  | m + 1, t, x, hx, h => by
    unfold lpL at h ⊢
    split
    · rename_i c; rw [if_pos c] at h; exact hx h
    rename_i c; rw [if_neg c] at h
    have c : x.2.2 = 0 := by simpa using c
    split
    · rename_i c2; rw [if_pos c2] at h; exact hx h
    rename_i c2; rw [if_neg c2] at h
    split
    · rename_i c3; exact absurd (by rw [if_pos c3] at h; exact h) c3
    rename_i c3; rw [if_neg c3] at h
    have c3 : (P (x.2.1 + 1)).2.2 = 0 := by simpa using c3
    refine lpL_ky hl hP m true _ (fun _ => ?_) h
    have ho : (opK (nxt ts x.2.1)).2 = l := by
      by_cases e : (opK (nxt ts x.2.1)).2 = l
      · exact e
      · exact absurd (.inl e) c2
    have hr := opK_rng (x := nxt ts x.2.1) (by omega)
    obtain ⟨A, hA, wA, zA⟩ := hx c
    obtain ⟨C, hC, wC, zC⟩ := hP _ c3
    rw [pf_succ] at zC
    obtain ⟨⟨ax, al⟩, x2⟩ := x
    dsimp only at *
    generalize P (x2.1 + 1) = y at hC zC ⊢
    obtain ⟨⟨cx, cl⟩, y2⟩ := y
    refine ⟨_, .bin _ ax cx al cl A C rfl rfl hr.1 hr.2 hA hC, alw_app.2 ⟨alw_par wA, alw_app.2 ⟨alw_one (wz_op hr.1 hr.2), alw_par wC⟩⟩, ?_⟩
    have p1 := @mz_par (tgh ax) A (if (opB (opK (nxt ts x2.1)).1).2 = 3 then 4 else (opB (opK (nxt ts x2.1)).1).2)
    have p2 := @mz_par (tgh cx) C ((opB (opK (nxt ts x2.1)).1).2 + 1)
    have p3 : (opB (opK (nxt ts x2.1)).1).1.size ≤ 2 := by
      generalize (opK (nxt ts x2.1)).1 = n at hr
      have : n = 1 ∨ n = 2 ∨ n = 3 ∨ n = 4 ∨ n = 5 ∨ n = 6 ∨ n = 7 ∨ n = 8 ∨ n = 9 ∨ n = 10 ∨ n = 11 ∨ n = 12 ∨ n = 13 := by omega
      rcases this with rfl | rfl | rfl | rfl | rfl | rfl | rfl | rfl | rfl | rfl | rfl | rfl | rfl <;> decide
    rw [mz_app, mz_app, mz_kwd]
    show _ ≤ Pf ts y2.1
    dsimp only at *
    omega
theorem lpP_ky {E : Nat → Got} {a : Nat} (hT : TkW ts) (hE : ∀ i, (E i).2.2 = 0 → KY ts i (E i).1 (E i).2.1) : ∀ (m : Nat) (x : Got), (x.2.2 = 0 → KY ts a x.1 x.2.1) → (lpP ts E a m x).2.2 = 0 → KY ts a (lpP ts E a m x).1 (lpP ts E a m x).2.1
  | 0, x, hx, h => hx h
  | m + 1, x, hx, h => by
    have s1 : sOpen.size = 1 := rfl
    have s2 : sShut.size = 1 := rfl
    have s3 : sDot.size = 1 := rfl
    unfold lpP at h ⊢
    split
    · rename_i c; rw [if_pos c] at h; exact hx h
    rename_i c; rw [if_neg c] at h
    have c : x.2.2 = 0 := by simpa using c
    obtain ⟨A, hA, wA, zA⟩ := hx c
    obtain ⟨⟨ax, al⟩, x2⟩ := x
    dsimp only at *
    have p1 := @mz_par (tgh ax) A 7
    split
    · rename_i c2; rw [if_pos c2] at h
      split
      · rename_i c3; exact absurd (by rw [if_pos c3] at h; exact h) c3
      rename_i c3; rw [if_neg c3] at h
      have c3 : (E (x2.1 + 1)).2.2 = 0 := by simpa using c3
      split
      · rename_i c4; rw [if_pos c4] at h; simp [bad7] at h
      rename_i c4; rw [if_neg c4] at h
      refine lpP_ky hT hE m _ (fun _ => ?_) h
      obtain ⟨C, hC, wC, zC⟩ := hE _ c3
      rw [pf_succ] at zC
      generalize E (x2.1 + 1) = y at hC zC ⊢
      obtain ⟨⟨cx, cl⟩, y2⟩ := y
      refine ⟨_, .idx _ ax cx al cl A C rfl rfl rfl hA hC, alw_app.2 ⟨alw_par wA, alw_app.2 ⟨alw_one wz_open, alw_app.2 ⟨wC, alw_one wz_shut⟩⟩⟩, ?_⟩
      rw [mz_app, mz_app, mz_app, mz_kwd, mz_kwd]
      show _ ≤ Pf ts (y2.1 + 1)
      rw [pf_succ]
      dsimp only at *
      omega
    rename_i c2; rw [if_neg c2] at h
    split
    · rename_i c3; rw [if_pos c3] at h
      split
      · rename_i c4; rw [if_pos c4] at h; simp [bad7] at h
      rename_i c4; rw [if_neg c4] at h
      have c4 : (nxt ts (x2.1 + 1)).k = 1 := by simpa using c4
      refine lpP_ky hT hE m _ (fun _ => ⟨_, .fld _ ax al A rfl rfl hA, alw_app.2 ⟨alw_par wA, alw_app.2 ⟨alw_one wz_dot, alw_one ((hT _).1 c4)⟩⟩, ?_⟩) h
      have hsp : spT (nxt ts (x2.1 + 1)) = (nxt ts (x2.1 + 1)).s := if_neg (by rw [c4]; decide)
      rw [mz_app, mz_app, mz_kwd, mz_one, sp_nm]
      show _ ≤ Pf ts (x2.1 + 2)
      rw [pf_succ, pf_succ, hsp]
      dsimp only at *
      omega
    · rename_i c3; rw [if_neg c3] at h
      exact ⟨A, hA, wA, zA⟩
theorem lpC_ky {E : Nat → Got} (hE : ∀ i, (E i).2.2 = 0 → KY ts i (E i).1 (E i).2.1) : ∀ (m i : Nat) (acc : List VT), (lpC ts E m i acc).2.2 = 0 → ∃ l Ms, (lpC ts E m i acc).1 = acc ++ l ∧ l ≠ [] ∧ l.length = Ms.length ∧ (∀ (i : Nat) t M, l[i]? = some t → Ms[i]? = some M → KE t M) ∧ (∀ M ∈ Ms, AllW M) ∧ mz (preK [kwd sCom] Ms) + Pf ts i ≤ Pf ts (lpC ts E m i acc).2.1
  | 0, i, acc, h => by simp [lpC] at h
  | m + 1, i, acc, h => by
    unfold lpC at h ⊢
    split
    · rename_i c; rw [if_pos c] at h; exact absurd h c
    rename_i c; rw [if_neg c] at h
    have c : (E i).2.2 = 0 := by simpa using c
    obtain ⟨M, hM, wM, zM⟩ := hE i c
    split
    · refine ⟨[(E i).1], [M], rfl, by simp, rfl, fun k t N a b => ?_, fun N hN => by rw [List.mem_singleton.1 hN]; exact wM, ?_⟩
      · cases k with
        | zero => simp at a b; subst a b; exact hM
        | succ k => simp at a
      · have : preK [kwd sCom] [M] = M := by simp [preK]
        rw [this]; dsimp only; omega
    · rename_i c2; rw [if_neg c2] at h
      obtain ⟨l, Ms, e1, e2, e3, e4, e5, e6⟩ := lpC_ky hE m _ _ h
      rw [pf_succ] at e6
      obtain ⟨u, l', rfl⟩ := List.exists_cons_of_ne_nil e2
      match Ms, e3 with
      | M2 :: Ms, e3 =>
        refine ⟨(E i).1 :: u :: l', M :: M2 :: Ms, by rw [e1]; simp, by simp, by simpa using e3, fun k t N a b => ?_, fun N hN => ?_, ?_⟩
        · cases k with
          | zero => simp at a b; subst a b; exact hM
          | succ k => exact e4 k t N (by simpa using a) (by simpa using b)
        · rcases List.mem_cons.1 hN with rfl | hN
          · exact wM
          · exact e5 N hN
        · rw [mz_preK]; omega
theorem cloG_ky {E : Nat → Got} (hE : ∀ i, (E i).2.2 = 0 → KY ts i (E i).1 (E i).2.1) {o : Nat} {few : Bool} {fs ls : ByteArray} (h : (cloG ts E o few fs ls).2.2 = 0) : ∃ Ms, (few = false → (cloG ts E o few fs ls).1 ≠ []) ∧ (cloG ts E o few fs ls).1.length = Ms.length ∧ (∀ (i : Nat) t M, (cloG ts E o few fs ls).1[i]? = some t → Ms[i]? = some M → KE t M) ∧ (∀ M ∈ Ms, AllW M) ∧ mz (preK [kwd sCom] Ms) + 20 + Pf ts o ≤ Pf ts (cloG ts E o few fs ls).2.1 := by
  unfold cloG at h ⊢
  split
  · rename_i c; rw [if_pos c] at h; exact absurd (show (6 : Int) = 0 from h) (by decide)
  rename_i c; rw [if_neg c] at h
  split
  · rename_i c2
    refine ⟨[], fun e => absurd c2.1 (by rw [e]; decide), rfl, (fun i t M a => by simp at a), (fun M hM => by cases hM), ?_⟩
    show mz (preK [kwd sCom] []) + 20 + Pf ts o ≤ Pf ts (o + 2)
    have : mz (preK [kwd sCom] []) = 0 := rfl
    rw [pf_succ, pf_succ, this]; omega
  rename_i c2; rw [if_neg c2] at h
  split
  · rename_i c3; rw [if_pos c3] at h; exact absurd h c3
  rename_i c3; rw [if_neg c3] at h
  have c3 : (lpC ts E (ts.length + 1) (o + 1) []).2.2 = 0 := by simpa using c3
  split
  · rename_i c4; rw [if_pos c4] at h; exact absurd (show (6 : Int) = 0 from h) (by decide)
  · obtain ⟨l, Ms, e1, e2, e3, e4, e5, e6⟩ := lpC_ky hE _ _ _ c3
    rw [List.nil_append] at e1
    dsimp only
    rw [e1]
    refine ⟨Ms, fun _ => e2, e3, e4, e5, ?_⟩
    rw [pf_succ] at e6 ⊢
    omega
theorem fin_ky {i o : Nat} {k : Int} {s : ByteArray} {c : List VT × Nat × Int} (hk : (k = 14 ∧ s = ⟨#[]⟩) ∨ ((k = 15 ∨ k = 16 ∨ k = 17) ∧ Wz (nmT s))) (hc : c.2.2 = 0 → ∃ Ms, (k = 14 ∨ k = 15 → c.1 ≠ []) ∧ c.1.length = Ms.length ∧ (∀ (i : Nat) t M, c.1[i]? = some t → Ms[i]? = some M → KE t M) ∧ (∀ M ∈ Ms, AllW M) ∧ mz (preK [kwd sCom] Ms) + 20 + Pf ts o ≤ Pf ts c.2.1) (ho : s.size + 5 + Pf ts i ≤ Pf ts o ∨ (k = 14 ∧ i = o)) (h : (finC ts i k s c).2.2 = 0) : KY ts i (finC ts i k s c).1 (finC ts i k s c).2.1 := by
  have t1 : sOpen.size = 1 := rfl
  have t2 : sShut.size = 1 := rfl
  have t3 : sParO.size = 1 := rfl
  have t4 : sParS.size = 1 := rfl
  have t5 : wNew.size = 3 := rfl
  have t6 : sAt.size = 1 := rfl
  unfold finC at h ⊢
  split
  · rename_i c1; rw [if_pos c1] at h; exact absurd h c1
  rename_i c1
  have c1 : c.2.2 = 0 := by simpa using c1
  obtain ⟨Ms, h0, h1, h2, h3, h4⟩ := hc c1
  have hp := alw_pre Ms h3
  rcases hk with ⟨rfl, rfl⟩ | ⟨rfl | rfl | rfl, hs⟩
  · refine ⟨_, .lst _ _ Ms rfl rfl rfl (h0 (.inl rfl)) h1 h2, alw_app.2 ⟨alw_one wz_open, alw_app.2 ⟨hp, alw_one wz_shut⟩⟩, ?_⟩
    rw [mz_app, mz_app, mz_kwd, mz_kwd]
    show _ ≤ Pf ts c.2.1
    rcases ho with ho | ⟨_, rfl⟩ <;> omega
  all_goals
    have ho : s.size + 5 + Pf ts i ≤ Pf ts o := by
      rcases ho with ho | ⟨e, _⟩
      · exact ho
      · exact absurd e (by decide)
  · refine ⟨_, .mak _ _ Ms rfl rfl (h0 (.inr rfl)) h1 h2, alw_app.2 ⟨alw_one wz_new, alw_app.2 ⟨alw_one hs, alw_app.2 ⟨alw_one wz_paro, alw_app.2 ⟨hp, alw_one wz_pars⟩⟩⟩⟩, ?_⟩
    rw [mz_app, mz_app, mz_app, mz_app, mz_kwd, mz_kwd, mz_kwd, mz_one, sp_nm]
    show _ ≤ Pf ts c.2.1
    dsimp only; omega
  · refine ⟨_, .cal _ _ Ms rfl rfl h1 h2, alw_app.2 ⟨alw_one hs, alw_app.2 ⟨alw_one wz_paro, alw_app.2 ⟨hp, alw_one wz_pars⟩⟩⟩, ?_⟩
    rw [mz_app, mz_app, mz_app, mz_kwd, mz_kwd, mz_one, sp_nm]
    show _ ≤ Pf ts c.2.1
    dsimp only; omega
  · refine ⟨_, .ext _ _ Ms rfl rfl h1 h2, alw_app.2 ⟨alw_one wz_at, alw_app.2 ⟨alw_one hs, alw_app.2 ⟨alw_one wz_paro, alw_app.2 ⟨hp, alw_one wz_pars⟩⟩⟩⟩, ?_⟩
    rw [mz_app, mz_app, mz_app, mz_app, mz_kwd, mz_kwd, mz_kwd, mz_one, sp_nm]
    show _ ≤ Pf ts c.2.1
    dsimp only; omega
theorem sp_name {y : Tok} (h : y.k = 1) : spT y = y.s := if_neg (by rw [h]; decide)
theorem calG_ky {E : Nat → Got} (hT : TkW ts) (hE : ∀ i, (E i).2.2 = 0 → KY ts i (E i).1 (E i).2.1) {i : Nat} (h : (calG ts E i).2.2 = 0) : KY ts i (calG ts E i).1 (calG ts E i).2.1 := by
  unfold calG at h ⊢
  split
  · rename_i c; rw [if_pos c] at h
    refine fin_ky (o := i + 1) (.inr ⟨.inr (.inl rfl), (hT _).1 c⟩) (fun g => ?_) (.inl (by rw [pf_succ, sp_name c]; omega)) h
    obtain ⟨Ms, _, a, b, d, e⟩ := cloG_ky hE g
    exact ⟨Ms, fun e => by omega, a, b, d, e⟩
  rename_i c; rw [if_neg c] at h
  split
  · rename_i c; rw [if_pos c] at h
    refine fin_ky (o := i) (.inl ⟨rfl, rfl⟩) (fun g => ?_) (.inr ⟨rfl, rfl⟩) h
    obtain ⟨Ms, f, a, b, d, e⟩ := cloG_ky hE g
    exact ⟨Ms, fun _ => f rfl, a, b, d, e⟩
  rename_i c; rw [if_neg c] at h
  split
  · rename_i c; rw [if_pos c] at h
    split
    · rename_i c; rw [if_pos c] at h; simp [bad7] at h
    · rename_i c; rw [if_neg c] at h
      have c : (nxt ts (i + 1)).k = 1 := by simpa using c
      refine fin_ky (o := i + 2) (.inr ⟨.inr (.inr rfl), (hT _).1 c⟩) (fun g => ?_) (.inl (by rw [pf_succ, pf_succ, sp_name c]; omega)) h
      obtain ⟨Ms, _, a, b, d, e⟩ := cloG_ky hE g
      exact ⟨Ms, fun e => by omega, a, b, d, e⟩
  rename_i c; rw [if_neg c] at h
  split
  · rename_i c; rw [if_pos c] at h
    split
    · rename_i c; rw [if_pos c] at h; simp [bad7] at h
    · rename_i c; rw [if_neg c] at h
      have c : (nxt ts (i + 1)).k = 1 := by simpa using c
      refine fin_ky (o := i + 2) (.inr ⟨.inl rfl, (hT _).1 c⟩) (fun g => ?_) (.inl (by rw [pf_succ, pf_succ, sp_name c]; omega)) h
      obtain ⟨Ms, f, a, b, d, e⟩ := cloG_ky hE g
      exact ⟨Ms, fun _ => f rfl, a, b, d, e⟩
  · rename_i c; rw [if_neg c] at h; simp [bad7] at h
theorem atoG_ky {E : Nat → Got} (hT : TkW ts) (hE : ∀ i, (E i).2.2 = 0 → KY ts i (E i).1 (E i).2.1) {i : Nat} (h : (atoG ts E i).2.2 = 0) : KY ts i (atoG ts E i).1 (atoG ts E i).2.1 := by
  have t1 : wTrue.size = 4 := rfl
  have t2 : wFals.size = 5 := rfl
  have t3 : wRead.size = 4 := rfl
  unfold atoG at h ⊢
  split
  · rename_i c
    obtain ⟨w1, w2, w3⟩ := (hT _).2 c
    refine ⟨_, .num _ rfl rfl w2 w3, alw_one w1, ?_⟩
    show mz [nbT (nxt ts i).n] + 4 + Pf ts i ≤ Pf ts (i + 1)
    rw [mz_one, sp_nb, pf_succ, show spT (nxt ts i) = wNum (nxt ts i).n from if_pos c]; omega
  rename_i c; rw [if_neg c] at h
  split
  · refine ⟨_, .tru _ rfl rfl rfl, alw_one wz_true, ?_⟩
    show mz [kwd wTrue] + 4 + Pf ts i ≤ Pf ts (i + 1)
    rw [mz_kwd, pf_succ]; omega
  rename_i c; rw [if_neg c] at h
  split
  · refine ⟨_, .fls _ rfl rfl rfl, alw_one wz_fals, ?_⟩
    show mz [kwd wFals] + 4 + Pf ts i ≤ Pf ts (i + 1)
    rw [mz_kwd, pf_succ]; omega
  rename_i c; rw [if_neg c] at h
  split
  · refine ⟨_, .read _ rfl rfl rfl, alw_one wz_read, ?_⟩
    show mz [kwd wRead] + 4 + Pf ts i ≤ Pf ts (i + 1)
    rw [mz_kwd, pf_succ]; omega
  rename_i c; rw [if_neg c] at h
  split
  · rename_i c
    refine ⟨_, .nam _ rfl rfl, alw_one ((hT _).1 c.1), ?_⟩
    show mz [nmT (nxt ts i).s] + 4 + Pf ts i ≤ Pf ts (i + 1)
    rw [mz_one, sp_nm, pf_succ, sp_name c.1]; omega
  rename_i c; rw [if_neg c] at h
  split
  · rename_i c; rw [if_pos c] at h
    split
    · rename_i c; exact absurd (by rw [if_pos c] at h; exact h) c
    rename_i c; rw [if_neg c] at h
    split
    · rename_i c; rw [if_pos c] at h; simp [bad7] at h
    · have c : (E (i + 1)).2.2 = 0 := by simpa using c
      obtain ⟨M, hM, wM, zM⟩ := hE _ c
      rw [pf_succ] at zM
      refine ⟨M, hM, wM, ?_⟩
      dsimp only
      rw [pf_succ]; omega
  · rename_i c; rw [if_neg c] at h; exact calG_ky hT hE h
theorem pG_ky (hT : TkW ts) : ∀ (n w i : Nat), (pG ts n w i).2.2 = 0 → KY ts i (pG ts n w i).1 (pG ts n w i).2.1
  | 0, w, i, h => by simp [pG, bad7] at h
  | n + 1, w, i, h => by
    have ih := pG_ky hT n
    unfold pG bG at h ⊢
    split
    · rename_i c; rw [if_pos c] at h; exact lpL_ky c (ih (w + 1)) _ _ _ (ih (w + 1) i) h
    rename_i c; rw [if_neg c] at h
    split
    · rename_i c; rw [if_pos c] at h
      split
      · rename_i c; rw [if_pos c] at h; exact ih _ _ h
      rename_i c0; rw [if_neg c0] at h
      split
      · rename_i c; exact absurd (by rw [if_pos c] at h; exact h) c
      rename_i c; rw [if_neg c] at h
      have c : (pG ts n 6 (i + 1)).2.2 = 0 := by simpa using c
      obtain ⟨A, hA, wA, zA⟩ := ih _ _ c
      rw [pf_succ] at zA
      generalize pG ts n 6 (i + 1) = y at hA zA ⊢
      obtain ⟨⟨ax, al⟩, y2⟩ := y
      have p1 := @mz_par (tgh ax) A 6
      have t1 : sMin.size = 1 := rfl
      have t2 : sNot.size = 1 := rfl
      have hu : unN ts i = 1 ∨ unN ts i = 2 := by
        unfold unN at c0 ⊢
        split
        · exact .inr rfl
        · split
          · exact .inl rfl
          · rename_i g1 g2; rw [if_neg g1, if_neg g2] at c0; exact absurd rfl c0
      rcases hu with hu | hu
      · refine ⟨_, .neg _ ax al A rfl hu rfl hA, alw_app.2 ⟨alw_one wz_min, alw_par wA⟩, ?_⟩
        rw [mz_app, mz_kwd]
        show _ ≤ Pf ts y2.1
        dsimp only at *; omega
      · refine ⟨_, .nt _ ax al A rfl hu rfl hA, alw_app.2 ⟨alw_one wz_not, alw_par wA⟩, ?_⟩
        rw [mz_app, mz_kwd]
        show _ ≤ Pf ts y2.1
        dsimp only at *; omega
    rename_i c; rw [if_neg c] at h
    split
    · rename_i c; rw [if_pos c] at h; exact lpP_ky hT (ih 1) _ _ (ih 8 i) h
    · rename_i c; rw [if_neg c] at h; exact atoG_ky hT (ih 1) h
end
theorem spell_sum (s : ByteArray) (hs : s.size ≤ 8192) : ∀ n i, s.size - i ≤ n → i ≤ s.size → (lx.toks s i).2.2 = 0 → ((lx.toks s i).1.map fun x => (spT (tkT x)).size).sum + i ≤ s.size := by
  have he : (spT (tkT (lx.tkEnd s))).size = 0 := by
    have e : spT (tkT (lx.tkEnd s)) = ⟨#[]⟩ := if_neg (show ¬ (5 : Int) = 2 by decide)
    rw [e]; rfl
  intro n
  induction n with
  | zero =>
    intro i hn hi h
    have hnx := lx.nx_le hi
    rw [lx.toks, dif_neg (by omega)]
    simp only [List.map_cons, List.map_nil, List.sum_cons, List.sum_nil, he]
    omega
  | succ n ih =>
    intro i hn hi h
    have hnx := lx.nx_le hi
    by_cases h1 : lx.nx s i < s.size; rotate_left
    · rw [lx.toks, dif_neg (by omega)]
      simp only [List.map_cons, List.map_nil, List.sum_cons, List.sum_nil, he]
      omega
    by_cases h2 : (lx.on s (lx.nx s i)).2 = 0; rotate_left
    · rw [lx.toks, dif_pos ⟨h1, hi⟩, dif_neg h2] at h
      exact absurd h h2
    obtain ⟨hf, j, hj, hlt, hle⟩ := lx.on_to h1 h2
    have hsz : (spT (tkT (lx.on s (lx.nx s i)).1)).size ≤ j - lx.nx s i := by
      have hext : ∀ b, b ≤ s.size → (s.extract (lx.nx s i) b).size = b - lx.nx s i := fun b hb => by rw [ByteArray.size_extract]; omega
      by_cases hL : lx.isL (lx.B s (lx.nx s i)) = true
      · by_cases h16 : 16 < lx.run lx.isN s (lx.nx s i) - lx.nx s i
        · rw [lx.tk_long hL h16] at h2; simp at h2
        · rw [lx.tk_name hL h16] at hj ⊢
          have hjj : lx.run lx.isN s (lx.nx s i) = j := by have : ((lx.run lx.isN s (lx.nx s i) : Nat) : Int) = (j : Int) := hj; omega
          rw [hjj]
          have hk : ¬ (tkT ⟨if lx.isW (s.extract (lx.nx s i) j) = true then 3 else 1, 0, s.extract (lx.nx s i) j, (lx.nx s i : Nat), (j : Nat)⟩).k = 2 := by
            show ¬ (if lx.isW (s.extract (lx.nx s i) j) = true then (3 : Int) else 1) = 2
            split <;> decide
          rw [show spT _ = _ from if_neg hk]
          show (s.extract (lx.nx s i) j).size ≤ _
          rw [hext j hle]; omega
      · have hL : lx.isL (lx.B s (lx.nx s i)) = false := by simpa using hL
        by_cases hD : lx.isD (lx.B s (lx.nx s i)) = true
        · cases hnm : lx.num (s.extract (lx.nx s i) (lx.run lx.isD s (lx.nx s i))) with
          | none => rw [lx.tk_nonum hL hD hnm] at h2; simp at h2
          | some q =>
            rw [lx.tk_number hL hD hnm] at hj ⊢
            have hjj : lx.run lx.isD s (lx.nx s i) = j := by have : ((lx.run lx.isD s (lx.nx s i) : Nat) : Int) = (j : Int) := hj; omega
            have hsp := (lx.num_spell (lx.dig_cut (Nat.le_of_lt h1)) hnm).1
            rw [show spT (tkT ⟨2, q, ⟨#[]⟩, (lx.nx s i : Nat), (lx.run lx.isD s (lx.nx s i) : Nat)⟩) = lx.numT q from if_pos rfl, hsp, hjj, hext j hle]; omega
        · have hD : lx.isD (lx.B s (lx.nx s i)) = false := by simpa using hD
          by_cases hsg : lx.sgN s (lx.nx s i) = 0
          · rw [lx.tk_none hL hD hsg] at h2; simp at h2
          · rw [lx.tk_sign hL hD hsg] at hj ⊢
            have hjj : lx.nx s i + lx.sgN s (lx.nx s i) = j := by have : ((lx.nx s i + lx.sgN s (lx.nx s i) : Nat) : Int) = (j : Int) := hj; omega
            rw [hjj]
            rw [show spT (tkT ⟨4, 0, s.extract (lx.nx s i) j, (lx.nx s i : Nat), (j : Nat)⟩) = s.extract (lx.nx s i) j from if_neg (show ¬ (4 : Int) = 2 by decide)]
            rw [hext j hle]; omega
    rw [lx.toks, dif_pos ⟨h1, hi⟩, dif_pos h2] at h ⊢
    simp only at h ⊢
    obtain ⟨y, hy⟩ : ∃ y, (lx.on s (lx.nx s i)).1 = y := ⟨_, rfl⟩
    rw [hy] at hj h hsz ⊢
    have hjt : y.t.toNat = j := by rw [hj]; simp
    rw [hjt] at h ⊢
    by_cases h3 : (lx.toks s j).2.2 = 0; rotate_left
    · rw [if_neg h3] at h; exact absurd h h3
    rw [if_pos h3]
    have := ih j (by omega) hle h3
    simp only [List.map_cons, List.sum_cons]
    omega
theorem pf_sum (ts : List Tok) : ∀ n, n ≤ ts.length → Pf ts n = ((ts.take n).map fun x => (spT x).size).sum + 10 * n
  | 0, _ => rfl
  | n + 1, h => by
    have hx : ts[n]? = some (ts[n]'(by omega)) := List.getElem?_eq_getElem _
    rw [Pf, pf_sum ts n (by omega), nxt_some hx, List.take_add_one, hx]
    simp only [Option.toList_some, List.map_append, List.map_cons, List.map_nil, List.sum_append, List.sum_cons, List.sum_nil]
    omega
theorem pf_mono (ts : List Tok) : ∀ n m, n ≤ m → Pf ts n ≤ Pf ts m := fun n m h => by
  induction m with
  | zero => have : n = 0 := by omega
            subst this; exact Nat.le_refl _
  | succ m ih =>
    by_cases e : n = m + 1
    · subst e; exact Nat.le_refl _
    · have := ih (by omega); rw [Pf]; omega
theorem pf_tok {s : ByteArray} (h : (tokG s).2.2 = 0) {n : Nat} (hn : n ≤ (tokG s).1.length) : Pf (tokG s).1 n ≤ s.size + 10 * (tokG s).1.length := by
  refine Nat.le_trans (pf_mono _ n _ hn) ?_
  rw [pf_sum _ _ (Nat.le_refl _), List.take_length]
  have h8 := tok_ok h
  unfold tokG lx.tokens at h ⊢
  by_cases hb : 8192 < s.size
  · rw [if_pos hb] at h; exact absurd (show (3 : Int) = 0 from h) (by decide)
  rw [if_neg hb] at h ⊢
  have := spell_sum s (by omega) s.size 0 (Nat.sub_le _ _) (Nat.zero_le _) h
  dsimp only
  rw [List.map_map]
  have e : ((fun x => (spT x).size) ∘ tkT) = fun x => (spT (tkT x)).size := rfl
  rw [e]
  omega
theorem J_mz : ∀ (M : List Tok), (J (M.map spT)).size ≤ mz M
  | [] => by rw [List.map_nil, J_nil]; exact Nat.zero_le _
  | [a] => by rw [List.map_cons, List.map_nil, J_one, mz_one]; omega
  | a :: b :: r => by
    have ih := J_mz (b :: r)
    rw [show a :: b :: r = [a] ++ (b :: r) from rfl, List.map_append, J_app (by simp) (by simp), List.map_cons, List.map_nil, J_one, ByteArray.size_append, ByteArray.size_append, mz_app, mz_one]
    have : sp.size = 1 := rfl
    omega
end Go.Proofs.YtlkggpjdaaglmaaDoor.am
end
section
namespace Go.Proofs.YtlkggpjdaaglmaaDoor.am
open vt
theorem td_term : td Tryd.prog 38 = some ⟨true, 6, 72, [.lit (.int .i64 0), .lit (.int .i64 0), .lit (.string ⟨#[]⟩), .nilS, .lit (.int .i64 0), .lit (.int .i64 0)], [(0, 1, false), (1, 1, false), (2, 1, false), (3, 1, false), (4, 1, false), (5, 1, false)], .struct⟩ := Eq.trans (by kernel_rfl) (Eq.refl _)
theorem td_terms : td Tryd.prog 36 = some ⟨false, 1, 24, [.nilS], [], (.slice 38)⟩ := Eq.trans (by kernel_rfl) (Eq.refl _)
theorem td_int : td Tryd.prog 3 = some ⟨false, 1, 8, [.lit (.int .i64 0)], [], (.int .i64)⟩ := Eq.trans (by kernel_rfl) (Eq.refl _)
theorem td_int64 : td Tryd.prog 2 = some ⟨false, 1, 8, [.lit (.int .i64 0)], [], (.int .i64)⟩ := Eq.trans (by kernel_rfl) (Eq.refl _)
theorem td_bool : td Tryd.prog 4 = some ⟨false, 1, 1, [.lit (.bool false)], [], .bool⟩ := Eq.trans (by kernel_rfl) (Eq.refl _)
theorem td_string : td Tryd.prog 9 = some ⟨false, 1, 16, [.lit (.string ⟨#[]⟩)], [], .string⟩ := Eq.trans (by kernel_rfl) (Eq.refl _)
attribute [simp] td_term td_terms td_int td_int64 td_bool td_string
theorem mixd : Tryd.prog.follows .mixedOrders = true := by kernel_rfl
end Go.Proofs.YtlkggpjdaaglmaaDoor.am
end
section
namespace Go.Proofs.YtlkggpjdaaglmaaDoor.am
open Go.ChangeShapes Go.WideShapes Go.ChangeAt Go.RowKit
open vt
set_option linter.unusedVariables false
set_option linter.unusedSimpArgs false
theorem td_tok : td Tryd.prog 53 = some ⟨true, 5, 48, [.lit (.int .i64 0), .lit (.int .i64 0), .lit (.string ⟨#[]⟩), .lit (.int .i64 0), .lit (.int .i64 0)], [(0, 1, false), (1, 1, false), (2, 1, false), (3, 1, false), (4, 1, false)], .struct⟩ := Eq.trans (by kernel_rfl) (Eq.refl _)
theorem td_toks : td Tryd.prog 33 = some ⟨false, 1, 24, [.nilS], [], (.slice 53)⟩ := Eq.trans (by kernel_rfl) (Eq.refl _)
theorem td_errno : td Tryd.prog 29 = some ⟨false, 1, 8, [.lit (.int .i64 0)], [], (.int .i64)⟩ := Eq.trans (by kernel_rfl) (Eq.refl _)
attribute [simp] td_tok td_toks td_errno
attribute [simp] kc
end Go.Proofs.YtlkggpjdaaglmaaDoor.am
end
