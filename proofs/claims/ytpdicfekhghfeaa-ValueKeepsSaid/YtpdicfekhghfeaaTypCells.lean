/-
  Layer 12, pure: the cells of a type.
-/
import Derived.Test.YtpdicfekhghfeaaTrmTree
namespace Go.Proofs.Ytpdicfekhghfeaa.ty
open Go.ChangeShapes Go.WideShapes Go.ChangeAt Go.RowKit
open bs tr te
set_option linter.unusedVariables false

def lim (c : Nat) : Nat := if 64 < c then 0 else c
theorem lim_le (c : Nat) : lim c ≤ 64 := by unfold lim; split <;> omega
theorem lim_pos {c : Nat} (h : 0 < lim c) : 0 < c := by unfold lim at h; split at h <;> omega

/-- A type's cells, those of a record being told. -/
noncomputable def cel (r : Int → Nat) (t : VT) : Nat := Tr.fold (fun x l b => if x.k = 1 ∨ x.k = 2 then (if l.length = 0 then 1 else 0) else if x.k = 3 then (if l.length = 1 ∧ 1 ≤ x.n ∧ x.n ≤ 16 then lim (x.n.toNat * b.headD 0) else 0) else if x.k = 4 then (if l.length = 0 then r x.n else 0) else 0) t
theorem cel_mk (r : Int → Nat) (x : Lab) (l : List VT) : cel r (.mk x l) = if x.k = 1 ∨ x.k = 2 then (if l.length = 0 then 1 else 0) else if x.k = 3 then (if l.length = 1 ∧ 1 ≤ x.n ∧ x.n ≤ 16 then lim (x.n.toNat * (l.map (cel r)).headD 0) else 0) else if x.k = 4 then (if l.length = 0 then r x.n else 0) else 0 := Tr.fold_mk _ x l

/-- Is it a part that might be a field? -/
def Fld (p : VT) : Prop := p.lab.k = 34 ∧ p.kids.length = 1
instance (p : VT) : Decidable (Fld p) := by unfold Fld; infer_instance
noncomputable def fc (c : VT → Nat) (p : VT) : Nat := if Fld p then (p.kids.map c).headD 0 else 0
/-- The cells of parts, behind some. -/
noncomputable def ofl (c : VT → Nat) : Nat → List VT → Nat
  | acc, [] => acc
  | acc, p :: ps => if fc c p = 0 ∨ lim (acc + fc c p) = 0 then 0 else ofl c (lim (acc + fc c p)) ps
/-- The cells of a record at a place, with so many records at most in one another. -/
noncomputable def rc (M : List VT) : Nat → Int → Nat
  | 0, _ => 0
  | g + 1, n => if 0 ≤ n then (match M[n.toNat]? with | some d => if d.lab.k = 30 then ofl (cel (rc M g)) 0 d.kids else 0 | none => 0) else 0
noncomputable def ce (M : List VT) (g : Nat) (t : VT) : Nat := cel (rc M g) t

theorem ofl_le (c : VT → Nat) : ∀ (l : List VT) (acc : Nat), acc ≤ 64 → ofl c acc l ≤ 64 := by
  intro l
  induction l with
  | nil => intro acc h; exact h
  | cons p l ih =>
    intro acc h
    unfold ofl
    split
    · omega
    · exact ih _ (lim_le _)
theorem rc_le (M : List VT) (g : Nat) (n : Int) : rc M g n ≤ 64 := by
  cases g with
  | zero => exact Nat.zero_le _
  | succ g =>
    unfold rc
    split
    · split
      · split
        · exact ofl_le _ _ _ (Nat.zero_le _)
        · exact Nat.zero_le _
      · exact Nat.zero_le _
    · exact Nat.zero_le _
theorem ce_le (M : List VT) (g : Nat) (t : VT) : ce M g t ≤ 64 := by
  cases t with
  | mk x l =>
    unfold ce
    rw [cel_mk]
    split
    · split <;> omega
    · split
      · split
        · exact lim_le _
        · omega
      · split
        · split
          · exact rc_le _ _ _
          · omega
        · omega
/-- Where the whole counts, each part does. -/
theorem ofl_pos {c : VT → Nat} : ∀ (l : List VT) (acc : Nat), 0 < ofl c acc l → ∀ p ∈ l, 0 < fc c p := by
  intro l
  induction l with
  | nil => intro acc h p hp; cases hp
  | cons q l ih =>
    intro acc h p hp
    unfold ofl at h
    split at h
    · omega
    · rcases List.mem_cons.1 hp with rfl | hp
      · omega
      · exact ih _ h p hp
theorem fc_pos {c : VT → Nat} {p : VT} (h : 0 < fc c p) : Fld p ∧ ∃ u, p.kids = [u] ∧ 0 < c u := by
  unfold fc at h
  split at h
  · rename_i hf
    obtain ⟨u, hu⟩ := List.length_eq_one_iff.1 hf.2
    rw [hu] at h
    exact ⟨hf, u, hu, h⟩
  · omega
theorem fc_one {c : VT → Nat} {p u : VT} (hk : p.lab.k = 34) (h : p.kids = [u]) : fc c p = c u := by
  unfold fc
  rw [if_pos ⟨hk, by rw [h]; rfl⟩, h]
  rfl
theorem fc_not {c : VT → Nat} {p : VT} (h : ¬ Fld p) : fc c p = 0 := by unfold fc; rw [if_neg h]
theorem ofl_not {c : VT → Nat} {l : List VT} {acc : Nat} {p : VT} (hp : p ∈ l) (h : ¬ Fld p) : ofl c acc l = 0 := by
  rcases Nat.eq_zero_or_pos (ofl c acc l) with h0 | h0
  · exact h0
  · exact absurd (fc_pos (ofl_pos l acc h0 p hp)).1 h
theorem rc_at {M : List VT} {g : Nat} {n : Nat} {d : VT} (hd : M[n]? = some d) : rc M (g + 1) n = if d.lab.k = 30 then ofl (cel (rc M g)) 0 d.kids else 0 := by
  unfold rc
  rw [if_pos (Int.natCast_nonneg n), Int.toNat_natCast, hd]
theorem rc_out {M : List VT} {g : Nat} {n : Int} (h : n < 0 ∨ (M.length : Int) ≤ n) : rc M g n = 0 := by
  cases g with
  | zero => rfl
  | succ g =>
    unfold rc
    by_cases h0 : 0 ≤ n
    · rw [if_pos h0, List.getElem?_eq_none (by omega)]
    · rw [if_neg h0]

/-- The records of these places, one in another, and the last one has the type in it. -/
def Inn (M : List VT) (S : List Nat) (t : VT) : Prop := S.Nodup ∧ (∀ p ∈ S, p < M.length) ∧ ∀ p ∈ S, ∃ k, 1 ≤ k ∧ ∀ h, 0 < rc M h p → k ≤ h ∧ 0 < ce M (h - k) t
theorem inn_nil (M : List VT) (t : VT) : Inn M [] t := ⟨List.nodup_nil, by simp, by simp⟩
theorem ce_arr {M : List VT} {g : Nat} {x : Lab} {u : VT} (hk : x.k = 3) (h1 : 1 ≤ x.n) (h2 : x.n ≤ 16) : ce M g (.mk x [u]) = lim (x.n.toNat * ce M g u) := by
  unfold ce
  rw [cel_mk, if_neg (by omega), if_pos hk, if_pos ⟨rfl, h1, h2⟩]
  rfl
theorem ce_rec {M : List VT} {g : Nat} {x : Lab} (hk : x.k = 4) : ce M g (.mk x []) = rc M g x.n := by
  unfold ce
  rw [cel_mk, if_neg (by omega), if_neg (by omega), if_pos hk, if_pos List.length_nil]
theorem inn_arr {M : List VT} {S : List Nat} {x : Lab} {u : VT} (hk : x.k = 3) (h1 : 1 ≤ x.n) (h2 : x.n ≤ 16) (h : Inn M S (.mk x [u])) : Inn M S u := by
  refine ⟨h.1, h.2.1, fun p hp => ?_⟩
  obtain ⟨k, hk1, hh⟩ := h.2.2 p hp
  refine ⟨k, hk1, fun g hg => ?_⟩
  obtain ⟨h3, h4⟩ := hh g hg
  refine ⟨h3, ?_⟩
  rw [ce_arr hk h1 h2] at h4
  have := lim_pos h4
  rcases Nat.eq_zero_or_pos (ce M (g - k) u) with h0 | h0
  · rw [h0] at this; omega
  · exact h0
/-- A place that stands in itself counts nothing. -/
theorem inn_self {M : List VT} {S : List Nat} {x : Lab} {n : Nat} (hk : x.k = 4) (hn : x.n = (n : Int)) (h : Inn M S (.mk x [])) (hm : n ∈ S) : ∀ g, rc M g n = 0 := by
  obtain ⟨k, hk1, hh⟩ := h.2.2 n hm
  intro g
  induction g using Nat.strongRecOn with
  | _ g ih =>
    rcases Nat.eq_zero_or_pos (rc M g n) with h0 | h0
    · exact h0
    · obtain ⟨h3, h4⟩ := hh g h0
      rw [ce_rec hk, hn, ih (g - k) (by omega)] at h4
      omega
theorem inn_rec {M : List VT} {S : List Nat} {x : Lab} {n : Nat} {d p u : VT} (hk : x.k = 4) (hn : x.n = (n : Int)) (h : Inn M S (.mk x [])) (hm : n ∉ S) (hd : M[n]? = some d) (hp : p ∈ d.kids) (hu : p.kids = [u]) : Inn M (S ++ [n]) u := by
  have hlt := (List.getElem?_eq_some_iff.1 hd).1
  have step : ∀ g, 0 < rc M g n → 1 ≤ g ∧ 0 < ce M (g - 1) u := by
    intro g hg
    cases g with
    | zero => exact absurd hg (Nat.lt_irrefl _)
    | succ g =>
      refine ⟨by omega, ?_⟩
      rw [rc_at hd] at hg
      split at hg
      · obtain ⟨hf, v, hv, hc⟩ := fc_pos (ofl_pos _ _ hg p hp)
        rw [hu] at hv
        obtain rfl : u = v := by simpa using hv
        exact hc
      · omega
  refine ⟨?_, ?_, ?_⟩
  · rw [List.nodup_append]
    exact ⟨h.1, by simp, by simp; intro a ha he; subst he; exact hm ha⟩
  · intro q hq
    rcases List.mem_append.1 hq with hq | hq
    · exact h.2.1 q hq
    · rw [List.mem_singleton.1 hq]; exact hlt
  · intro q hq
    rcases List.mem_append.1 hq with hq | hq
    · obtain ⟨k, hk1, hh⟩ := h.2.2 q hq
      refine ⟨k + 1, by omega, fun g hg => ?_⟩
      obtain ⟨h3, h4⟩ := hh g hg
      rw [ce_rec hk, hn] at h4
      obtain ⟨h5, h6⟩ := step _ h4
      exact ⟨by omega, by rw [show g - (k + 1) = g - k - 1 by omega]; exact h6⟩
    · rw [List.mem_singleton.1 hq]
      exact ⟨1, Nat.le_refl _, step⟩
theorem nd_len : ∀ (n : Nat) (l : List Nat), l.Nodup → (∀ q ∈ l, q < n) → l.length ≤ n := by
  intro n
  induction n with
  | zero =>
    intro l _ h
    cases l with
    | nil => exact Nat.le_refl _
    | cons q l => exact absurd (h q (by simp)) (Nat.not_lt_zero _)
  | succ n ih =>
    intro l hn h
    by_cases hm : n ∈ l
    · have h2 := ih (l.erase n) (hn.erase n) (fun q hq => by
        have := h q (List.mem_of_mem_erase hq)
        have : q ≠ n := (hn.mem_erase_iff.1 hq).1
        omega)
      rw [List.length_erase_of_mem hm] at h2
      omega
    · have := ih l hn (fun q hq => by
        have := h q hq
        have : q ≠ n := fun e => hm (e ▸ hq)
        omega)
      omega
/-- There is room for one more. -/
theorem inn_room {M : List VT} {S : List Nat} {t : VT} {n : Nat} (h : Inn M S t) (hn : n < M.length) (hm : n ∉ S) : S.length < M.length := by
  have := nd_len M.length (n :: S) (List.nodup_cons.2 ⟨hm, h.1⟩) (fun q hq => by
    rcases List.mem_cons.1 hq with rfl | hq
    · exact hn
    · exact h.2.1 q hq)
  rw [List.length_cons] at this
  omega
end Go.Proofs.Ytpdicfekhghfeaa.ty
