/-
  Layer 19, pure: the zero value of a type, and what fits a type.
-/
import Derived.Test.YtpdicfekhghfeaaTypCells
import Derived.Test.YtpdicfekhghfeaaTreesPut
import Derived.Test.YtpdicfekhghfeaaValTree
namespace Go.Proofs.Ytpdicfekhghfeaa.zf
open bs tr te ty
open Tr (at' put at_nil at_cons put_nil put_cons at_some at_kid)
set_option linter.unusedVariables false
abbrev PT := te.VT
abbrev PV := va.VT

/-- The type of a field. -/
def sub (p : PT) : PT := p.kids.headD p
/-- The types of the parts. -/
def pts (M : List PT) (t : PT) : List PT := if t.lab.k = 3 then List.replicate t.lab.n.toNat (t.kids.headD t) else if t.lab.k = 4 then (match M[t.lab.n.toNat]? with | some d => d.kids.map sub | none => []) else []
def Ok (M : List PT) (t : PT) : Prop := 0 < ce M M.length t
/-- How a type looks that has cells. -/
inductive Gd (M : List PT) (t : PT) : Prop
  | one (h : t.lab.k = 1 ∨ t.lab.k = 2) (hk : t.kids = [])
  | arr (u : PT) (q : Nat) (h : t.lab.k = 3) (hk : t.kids = [u]) (hn : t.lab.n = q) (h1 : 1 ≤ q) (h2 : q ≤ 16)
  | rcd (q : Nat) (d : PT) (h : t.lab.k = 4) (hk : t.kids = []) (hn : t.lab.n = q) (hd : M[q]? = some d) (hne : d.kids ≠ []) (hf : ∀ p ∈ d.kids, Fld p)

theorem lim_zero : lim 0 = 0 := rfl
theorem ce_shape {M : List PT} {g : Nat} {t : PT} (h : 0 < ce M g t) : (t.lab.k = 1 ∨ t.lab.k = 2) ∧ t.kids = [] ∨ (∃ (u : PT) (q : Nat), t.lab.k = 3 ∧ t.kids = [u] ∧ t.lab.n = q ∧ 1 ≤ q ∧ q ≤ 16 ∧ 0 < ce M g u) ∨ (∃ (g' q : Nat) (d : PT), g = g' + 1 ∧ t.lab.k = 4 ∧ t.kids = [] ∧ t.lab.n = q ∧ M[q]? = some d ∧ d.kids ≠ [] ∧ ∀ p ∈ d.kids, Fld p ∧ 0 < ce M g' (sub p)) := by
  cases t with
  | mk x l =>
  show (x.k = 1 ∨ x.k = 2) ∧ l = [] ∨ _
  by_cases k1 : x.k = 1 ∨ x.k = 2
  · left
    refine ⟨k1, ?_⟩
    unfold ce at h
    rw [cel_mk, if_pos k1] at h
    split at h
    · exact List.eq_nil_of_length_eq_zero ‹_›
    · omega
  right
  by_cases k3 : x.k = 3
  · left
    have h' := h
    unfold ce at h'
    rw [cel_mk, if_neg k1, if_pos k3] at h'
    split at h'
    · rename_i hc
      obtain ⟨u, hu⟩ := List.length_eq_one_iff.1 hc.1
      subst hu
      rw [ce_arr k3 hc.2.1 hc.2.2] at h
      have h0 := lim_pos h
      refine ⟨u, x.n.toNat, k3, rfl, ?_, by omega, by omega, ?_⟩
      · show x.n = _; omega
      · rcases Nat.eq_zero_or_pos (ce M g u) with h1 | h1
        · rw [h1] at h0; omega
        · exact h1
    · omega
  by_cases k4 : x.k = 4
  · right
    have h' := h
    unfold ce at h'
    rw [cel_mk, if_neg k1, if_neg k3, if_pos k4] at h'
    split at h'
    · rename_i hl
      have hl0 := List.eq_nil_of_length_eq_zero hl
      cases g with
      | zero => unfold rc at h'; omega
      | succ g =>
        by_cases hin : x.n < 0 ∨ (M.length : Int) ≤ x.n
        · rw [rc_out hin] at h'; omega
        · obtain ⟨q, hq⟩ : ∃ q : Nat, x.n = q := ⟨x.n.toNat, by omega⟩
          have hqm : q < M.length := by omega
          have hd : M[q]? = some M[q] := List.getElem?_eq_getElem hqm
          rw [hq, rc_at hd] at h'
          split at h'
          · refine ⟨g, q, M[q], rfl, k4, hl0, hq, hd, ?_, fun p hp => ?_⟩
            · intro hne
              rw [hne] at h'
              exact absurd h' (by simp [ofl])
            · obtain ⟨hf, u, hu, hc⟩ := fc_pos (ofl_pos _ _ h' p hp)
              refine ⟨hf, ?_⟩
              unfold sub
              rw [hu]
              exact hc
          · omega
    · omega
  · unfold ce at h
    rw [cel_mk, if_neg k1, if_neg k3, if_neg k4] at h
    omega

theorem ofl_up {c c' : PT → Nat} (l : List PT) (hc : ∀ p ∈ l, ∀ u, p.kids = [u] → 0 < c u → c' u = c u) : ∀ acc, 0 < ofl c acc l → ofl c' acc l = ofl c acc l := by
  induction l with
  | nil => intro acc _; rfl
  | cons p l ih =>
    intro acc h
    have hp := ofl_pos _ _ h p (List.mem_cons_self ..)
    obtain ⟨hf, u, hu, h0⟩ := fc_pos hp
    have hfc : fc c' p = fc c p := by rw [fc_one hf.1 hu, fc_one hf.1 hu, hc p (List.mem_cons_self ..) u hu h0]
    rw [ofl] at h ⊢
    rw [hfc]
    rw [ofl]
    split at h
    · omega
    · rename_i hn
      rw [if_neg hn, if_neg hn]
      exact ih (fun p hp => hc p (List.mem_cons_of_mem _ hp)) _ h
theorem cel_up {r r' : Int → Nat} (hr : ∀ n, 0 < r n → r' n = r n) (t : PT) : 0 < cel r t → cel r' t = cel r t := by
  induction t using Tr.ind with
  | h x l ih =>
  intro h
  rw [cel_mk] at h ⊢
  rw [cel_mk]
  by_cases k1 : x.k = 1 ∨ x.k = 2
  · rw [if_pos k1, if_pos k1]
  · rw [if_neg k1] at h
    rw [if_neg k1, if_neg k1]
    by_cases k3 : x.k = 3
    · rw [if_pos k3] at h
      rw [if_pos k3, if_pos k3]
      split at h
      · rename_i hc
        rw [if_pos hc, if_pos hc]
        obtain ⟨u, hu⟩ := List.length_eq_one_iff.1 hc.1
        subst hu
        have h0 := lim_pos h
        have hu0 : 0 < cel r u := by
          rcases Nat.eq_zero_or_pos (cel r u) with h1 | h1
          · simp [h1] at h0
          · exact h1
        have := ih u (by simp) hu0
        simp [this]
      · omega
    · rw [if_neg k3] at h
      rw [if_neg k3, if_neg k3]
      by_cases k4 : x.k = 4
      · rw [if_pos k4] at h
        rw [if_pos k4, if_pos k4]
        split at h
        · rename_i hl
          rw [if_pos hl, if_pos hl]
          exact hr _ h
        · omega
      · rw [if_neg k4] at h; omega
theorem rc_up (M : List PT) (g : Nat) : ∀ n, 0 < rc M g n → rc M (g + 1) n = rc M g n := by
  induction g with
  | zero => intro n h; unfold rc at h; omega
  | succ g ih =>
    intro n h
    by_cases hin : n < 0 ∨ (M.length : Int) ≤ n
    · rw [rc_out hin, rc_out hin]
    · obtain ⟨q, rfl⟩ : ∃ q : Nat, n = q := ⟨n.toNat, by omega⟩
      have hqm : q < M.length := by omega
      have hd : M[q]? = some M[q] := List.getElem?_eq_getElem hqm
      rw [rc_at hd] at h ⊢
      rw [rc_at hd]
      split at h
      · rename_i hk
        rw [if_pos hk, if_pos hk]
        exact ofl_up _ (fun p _ u _ hu => cel_up ih u hu) 0 h
      · omega
theorem ce_up {M : List PT} {g : Nat} {t : PT} (h : 0 < ce M g t) : 0 < ce M (g + 1) t := by
  have := cel_up (rc_up M g) t h
  unfold ce at h ⊢
  omega
theorem ce_le_up {M : List PT} {g h : Nat} (hg : g ≤ h) {t : PT} (hc : 0 < ce M g t) : 0 < ce M h t := by
  induction h with
  | zero => rw [Nat.le_zero.1 hg] at hc; exact hc
  | succ h ih =>
    rcases Nat.lt_or_ge h g with h1 | h1
    · have : g = h + 1 := by omega
      subst this; exact hc
    · exact ce_up (ih h1)

theorem Ok.gd {M : List PT} {t : PT} (h : Ok M t) : Gd M t := by
  rcases ce_shape h with ⟨h1, h2⟩ | ⟨u, q, h1, h2, h3, h4, h5, _⟩ | ⟨g, q, d, _, h1, h2, h3, h4, h5, h6⟩
  · exact .one h1 h2
  · exact .arr u q h1 h2 h3 h4 h5
  · exact .rcd q d h1 h2 h3 h4 h5 (fun p hp => (h6 p hp).1)
theorem pts_one {M : List PT} {t : PT} (h : t.lab.k = 1 ∨ t.lab.k = 2) : pts M t = [] := by
  unfold pts
  rw [if_neg (by omega), if_neg (by omega)]
theorem pts_arr {M : List PT} {t u : PT} {q : Nat} (h : t.lab.k = 3) (hk : t.kids = [u]) (hn : t.lab.n = q) : pts M t = List.replicate q u := by
  unfold pts
  rw [if_pos h, hk, hn, Int.toNat_natCast]
  rfl
theorem pts_rec {M : List PT} {t d : PT} {q : Nat} (h : t.lab.k = 4) (hn : t.lab.n = q) (hd : M[q]? = some d) : pts M t = d.kids.map sub := by
  unfold pts
  rw [if_neg (by omega), if_pos h, hn, Int.toNat_natCast, hd]
theorem pts_pos {M : List PT} {g : Nat} {t : PT} (h : 0 < ce M g t) : (∀ p ∈ pts M t, 0 < ce M g p) := by
  intro p hp
  rcases ce_shape h with ⟨h1, h2⟩ | ⟨u, q, h1, h2, h3, h4, h5, h6⟩ | ⟨g, q, d, rfl, h1, h2, h3, h4, h5, h6⟩
  · rw [pts_one h1] at hp; cases hp
  · rw [pts_arr h1 h2 h3] at hp
    rw [(List.mem_replicate.1 hp).2]; exact h6
  · rw [pts_rec h1 h3 h4] at hp
    obtain ⟨p', hp', rfl⟩ := List.mem_map.1 hp
    exact ce_up (h6 p' hp').2
theorem Ok.pts {M : List PT} {t : PT} (h : Ok M t) : ∀ p ∈ pts M t, Ok M p := pts_pos h

/-- Types nest no deeper. -/
def Dp (M : List PT) : Nat → PT → Prop
  | 0, _ => False
  | f + 1, t => ∀ p ∈ zf.pts M t, Dp M f p
theorem dp_up (M : List PT) : ∀ (f : Nat) (t : PT), Dp M f t → Dp M (f + 1) t := by
  intro f
  induction f with
  | zero => intro t h; cases h
  | succ f ih => intro t h p hp; exact ih p (h p hp)
theorem dp_le {M : List PT} {f h : Nat} (hf : f ≤ h) {t : PT} (hd : Dp M f t) : Dp M h t := by
  induction h with
  | zero => rw [Nat.le_zero.1 hf] at hd; exact hd
  | succ h ih =>
    rcases Nat.lt_or_ge h f with h1 | h1
    · have : f = h + 1 := by omega
      subst this; exact hd
    · exact dp_up M h t (ih h1)
theorem dp_all {M : List PT} : ∀ (l : List PT), (∀ p ∈ l, ∃ f, Dp M f p) → ∃ f, ∀ p ∈ l, Dp M f p := by
  intro l
  induction l with
  | nil => intro _; exact ⟨0, fun p hp => by cases hp⟩
  | cons q l ih =>
    intro h
    obtain ⟨f1, h1⟩ := h q (List.mem_cons_self ..)
    obtain ⟨f2, h2⟩ := ih (fun p hp => h p (List.mem_cons_of_mem _ hp))
    refine ⟨f1 + f2, fun p hp => ?_⟩
    rcases List.mem_cons.1 hp with rfl | hp
    · exact dp_le (by omega) h1
    · exact dp_le (by omega) (h2 p hp)
theorem deep (M : List PT) (g : Nat) : ∀ t, 0 < ce M g t → ∃ f, Dp M f t := by
  induction g with
  | zero =>
    intro t
    induction t using Tr.ind with
    | h x l ih =>
    intro h
    rcases ce_shape h with ⟨h1, h2⟩ | ⟨u, q, h1, h2, h3, h4, h5, h6⟩ | ⟨g, q, d, h0, _⟩
    · exact ⟨1, fun p hp => by rw [pts_one h1] at hp; cases hp⟩
    · have hu : u ∈ l := by have h2' : l = [u] := h2; rw [h2']; simp
      obtain ⟨f, hf⟩ := ih u hu h6
      exact ⟨f + 1, fun p hp => by rw [pts_arr h1 h2 h3] at hp; rw [(List.mem_replicate.1 hp).2]; exact hf⟩
    · omega
  | succ g ihg =>
    intro t
    induction t using Tr.ind with
    | h x l ih =>
    intro h
    rcases ce_shape h with ⟨h1, h2⟩ | ⟨u, q, h1, h2, h3, h4, h5, h6⟩ | ⟨g', q, d, h0, h1, h2, h3, h4, h5, h6⟩
    · exact ⟨1, fun p hp => by rw [pts_one h1] at hp; cases hp⟩
    · have hu : u ∈ l := by have h2' : l = [u] := h2; rw [h2']; simp
      obtain ⟨f, hf⟩ := ih u hu h6
      exact ⟨f + 1, fun p hp => by rw [pts_arr h1 h2 h3] at hp; rw [(List.mem_replicate.1 hp).2]; exact hf⟩
    · have hg : g' = g := by omega
      subst hg
      obtain ⟨f, hf⟩ := dp_all (M := M) (d.kids.map sub) (fun p hp => by
        obtain ⟨p', hp', rfl⟩ := List.mem_map.1 hp
        exact ihg _ (h6 p' hp').2)
      exact ⟨f + 1, fun p hp => by rw [pts_rec h1 h3 h4] at hp; exact hf p hp⟩

/-- The zero value. -/
def zr (M : List PT) : Nat → PT → PV
  | 0, _ => .mk 0 []
  | f + 1, t => .mk 0 ((zf.pts M t).map (zr M f))
/-- May this number stand in a value of this type? -/
def cnd (t : PT) (n : Int) : Prop := (t.lab.k = 2 → n = 0 ∨ n = 1) ∧ (t.lab.k ≠ 1 → t.lab.k ≠ 2 → n = 0)
noncomputable def fit (M : List PT) (v : PV) : PT → Prop := Tr.fold (fun n l (b : List (PT → Prop)) t => cnd t n ∧ l.length = (zf.pts M t).length ∧ ∀ (i : Nat) (p : PT → Prop) (q : PT), b[i]? = some p → (zf.pts M t)[i]? = some q → p q) v
theorem fit_mk (M : List PT) (n : Int) (l : List PV) (t : PT) : fit M (.mk n l) t ↔ cnd t n ∧ l.length = (zf.pts M t).length ∧ ∀ (i : Nat) p q, l[i]? = some p → (zf.pts M t)[i]? = some q → fit M p q := by
  unfold fit
  rw [Tr.fold_mk]
  constructor
  · rintro ⟨h1, h2, h3⟩
    exact ⟨h1, h2, fun i p q hp hq => h3 i _ q (by rw [List.getElem?_map, hp]; rfl) hq⟩
  · rintro ⟨h1, h2, h3⟩
    refine ⟨h1, h2, fun i p q hp hq => ?_⟩
    rw [List.getElem?_map] at hp
    rcases hl : l[i]? with _ | y
    · rw [hl] at hp; cases hp
    · rw [hl] at hp; cases hp; exact h3 i y q hl hq
theorem cnd_zero (t : PT) : cnd t 0 := ⟨fun _ => .inl rfl, fun _ _ => rfl⟩
theorem zero_fit (M : List PT) (f : Nat) : ∀ t, Dp M f t → fit M (zr M f t) t := by
  induction f with
  | zero => intro t h; cases h
  | succ f ih =>
    intro t h
    unfold zr
    rw [fit_mk]
    refine ⟨cnd_zero t, List.length_map .., fun i p q hp hq => ?_⟩
    rw [List.getElem?_map, hq] at hp
    cases hp
    exact ih q (h q (List.mem_of_getElem? hq))
/-- A part of the zero value that has none, set to 0 or 1. -/
theorem keeps (M : List PT) (f : Nat) : ∀ (t : PT) (way : List Int) (z n : Int), Ok M t → Dp M f t → at' (zr M f t) way = some (.mk z []) → z = 0 ∧ (n = 0 ∨ n = 1 → fit M (put (zr M f t) way (.mk n [])) t) := by
  induction f with
  | zero => intro t way z n _ h; cases h
  | succ f ih =>
    intro t way z n hok hd ha
    cases way with
    | nil =>
      rw [at_nil] at ha
      have h2 := Option.some.inj ha
      unfold zr at h2
      cases h2' : zf.pts M t with
      | cons a b => rw [h2'] at h2; cases h2
      | nil =>
        have hz : z = 0 := by rw [h2'] at h2; cases h2; rfl
        refine ⟨hz, fun hn => ?_⟩
        rw [put_nil, fit_mk]
        refine ⟨?_, by rw [h2']; rfl, fun i p q hp _ => by cases hp⟩
        rcases hok.gd with ⟨h, _⟩ | ⟨u, q, h1, h3, h4, h5, _⟩ | ⟨q, d, h1, h3, h4, h5, h6, _⟩
        · exact ⟨fun _ => hn, fun _ _ => by omega⟩
        · rw [pts_arr h1 h3 h4] at h2'
          have := congrArg List.length h2'
          simp at this
          omega
        · rw [pts_rec h1 h4 h5] at h2'
          exact absurd (List.map_eq_nil_iff.1 h2') h6
    | cons i way =>
      obtain ⟨k, y, rfl, hk, hy, hya⟩ := at_some ha
      have hy' : ((zf.pts M t).map (zr M f))[k]? = some y := hy
      rw [List.getElem?_map] at hy'
      rcases hq : (zf.pts M t)[k]? with _ | q
      · rw [hq] at hy'; cases hy'
      · rw [hq] at hy'
        have hyq : zr M f q = y := Option.some.inj hy'
        subst hyq
        obtain ⟨h1, h2⟩ := ih q way z n (hok.pts q (List.mem_of_getElem? hq)) (hd q (List.mem_of_getElem? hq)) hya
        refine ⟨h1, fun hn => ?_⟩
        rw [put_cons, fit_mk]
        refine ⟨cnd_zero t, by rw [List.length_modify]; exact List.length_map .., fun i p r hp hr => ?_⟩
        have hp' : (((zf.pts M t).map (zr M f)).modify k fun y => put y way (.mk n []))[i]? = some p := by
          have := hp
          rw [Int.toNat_natCast] at this
          exact this
        rw [List.getElem?_modify] at hp'
        by_cases hik : k = i
        · subst hik
          rw [List.getElem?_map, hq] at hp'
          have hp2 : some (if k = k then put (zr M f q) way (.mk n []) else zr M f q) = some p := hp'
          rw [if_pos rfl] at hp2
          cases hp2
          rw [hq] at hr
          cases hr
          exact h2 hn
        · rw [List.getElem?_map, hr] at hp'
          have hp2 : some (if k = i then put (zr M f r) way (.mk n []) else zr M f r) = some p := hp'
          rw [if_neg hik] at hp2
          cases hp2
          exact zero_fit M f r (hd r (List.mem_of_getElem? hr))
theorem pts_len' {M : List PT} {t : PT} (hg : Gd M t) (hM : ∀ d ∈ M, d.kids.length ≤ 1000) : (zf.pts M t).length ≤ 1000 := by
  rcases hg with ⟨h1, h2⟩ | ⟨u, q, h1, h2, h3, h4, h5⟩ | ⟨q, d, h1, h2, h3, h4, h5, h6⟩
  · rw [pts_one h1]; simp
  · rw [pts_arr h1 h2 h3, List.length_replicate]; omega
  · rw [pts_rec h1 h3 h4, List.length_map]; exact hM d (List.mem_of_getElem? h4)
end Go.Proofs.Ytpdicfekhghfeaa.zf
