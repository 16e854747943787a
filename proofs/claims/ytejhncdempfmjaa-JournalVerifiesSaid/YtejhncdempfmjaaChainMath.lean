/-
  Layer 47: logs as bytes: what is framed is read, frame by frame; a log is its frames. No call is named here.
-/
import Derived.Test.YtejhncdempfmjaaChainREn
namespace Go.Proofs.Ytejhncdempfmjaa.ch
open Go.ChangeShapes Go.WideShapes Go.ChangeAt Go.RowKit
open bs en
open Go.Proofs.Ytejhncdempfmjaa.sh (tagB)
set_option linter.unusedVariables false

/-- What is framed is read, whatever stands ahead and behind. -/
theorem reads_mid (k : Int) (l tag ah bh : List Int) (hl : l.length ≤ 1024) (ht : tag.length = 32) (hk1 : 1 ≤ k) (hk3 : k ≤ 3) :
    rdE (ah ++ (frB k l tag ++ bh)) ah.length = 0 ∧ (sz ((ah ++ (frB k l tag ++ bh)).drop ah.length)).toNat = l.length + 1 ∧ frK (ah ++ (frB k l tag ++ bh)) ah.length = ⟨k, l, tag⟩ := by
  have hd : (ah ++ (frB k l tag ++ bh)).drop ah.length = frB k l tag ++ bh := List.drop_left
  have h1 : (frB k l tag ++ bh).getD 4 0 = k := rfl
  have h2 : sz (frB k l tag ++ bh) = ((l.length + 1 : Nat) : Int) := by
    unfold frB sz four
    simp only [List.cons_append, List.nil_append, List.getD_cons_zero, List.getD_cons_succ]
    omega
  have h3 : (frB k l tag ++ bh).drop 5 = l ++ (tag ++ bh) := by unfold frB; simp
  have hlen : (ah ++ (frB k l tag ++ bh)).length = ah.length + (l.length + 37) + bh.length := by
    rw [List.length_append, List.length_append, frB_len]; omega
  refine ⟨?_, ?_, ?_⟩
  · unfold rdE
    rw [Int.toNat_natCast, hd, h1, h2, hlen, if_neg (by omega), if_neg (by omega), if_neg (by omega), if_neg (by omega), if_neg (by omega), if_pos (by unfold isK; exact decide_eq_true ⟨hk1, hk3⟩)]
  · rw [hd, h2]; omega
  · unfold frK
    rw [hd, h1, h2, Int.toNat_natCast, h3, Nat.add_sub_cancel, List.take_left, show 4 + (l.length + 1) = 5 + l.length by omega, ← List.drop_drop, h3, List.drop_left, ← ht, List.take_left]

/-- A frame that may be. -/
def Fit (x : Fm) : Prop := x.b.length ≤ 1024 ∧ x.t.length = 32 ∧ 1 ≤ x.k ∧ x.k ≤ 3
/-- The log of so many frames. -/
def lgF (f : Nat → Fm) : Nat → List Int
  | 0 => []
  | j + 1 => lgF f j ++ frB (f j).k (f j).b (f j).t
theorem lgF_split (f : Nat → Fm) (j n : Nat) (h : j ≤ n) : ∃ r, lgF f n = lgF f j ++ r := by
  induction n with
  | zero => exact ⟨[], by rw [show j = 0 by omega]; rfl⟩
  | succ n ih =>
    rcases Nat.lt_or_ge j (n + 1) with h1 | h1
    · obtain ⟨r, hr⟩ := ih (by omega)
      exact ⟨r ++ frB (f n).k (f n).b (f n).t, by rw [lgF, hr, List.append_assoc]⟩
    · exact ⟨[], by rw [show j = n + 1 by omega, List.append_nil]⟩
theorem lgF_read (f : Nat → Fm) (n : Nat) (hf : ∀ i, i < n → Fit (f i)) (j : Nat) (hj : j ≤ n) : atF (lgF f n) j = (lgF f j).length := by
  induction j with
  | zero => rfl
  | succ j ih =>
    have h := ih (by omega)
    obtain ⟨h1, h2, h3, h4⟩ := hf j (by omega)
    obtain ⟨r, hr⟩ := lgF_split f (j + 1) n hj
    rw [lgF, List.append_assoc] at hr
    have q := reads_mid (f j).k (f j).b (f j).t (lgF f j) r h1 h2 h3 h4
    rw [← hr] at q
    rw [atF, h, q.2.1, lgF, List.length_append, frB_len, h2]
    omega
theorem lgF_frame (f : Nat → Fm) (n : Nat) (hf : ∀ i, i < n → Fit (f i)) (j : Nat) (hj : j < n) : rdE (lgF f n) (atF (lgF f n) j) = 0 ∧ fm (lgF f n) j = f j ∧ atF (lgF f n) j < (lgF f n).length := by
  have h := lgF_read f n hf j (by omega)
  obtain ⟨h1, h2, h3, h4⟩ := hf j hj
  obtain ⟨r, hr⟩ := lgF_split f (j + 1) n hj
  rw [lgF, List.append_assoc] at hr
  have q := reads_mid (f j).k (f j).b (f j).t (lgF f j) r h1 h2 h3 h4
  rw [← hr] at q
  refine ⟨by rw [h]; exact q.1, by rw [fm, h]; exact q.2.2, ?_⟩
  rw [h, hr, List.length_append, List.length_append, frB_len]
  omega
theorem lgF_ends (f : Nat → Fm) (n : Nat) (hf : ∀ i, i < n → Fit (f i)) : Ends (lgF f n) n 0 := by
  refine ⟨fun i hi => ?_, .inl ⟨by rw [lgF_read f n hf n (Nat.le_refl _)]; exact Nat.le_refl _, rfl⟩⟩
  obtain ⟨h1, h2, h3⟩ := lgF_frame f n hf i hi
  exact ⟨h3, h1⟩
theorem lgF_congr {f g : Nat → Fm} {n : Nat} (h : ∀ i, i < n → f i = g i) : lgF f n = lgF g n := by
  induction n with
  | zero => rfl
  | succ n ih => rw [lgF, lgF, ih (fun i hi => h i (by omega)), h n (by omega)]

theorem fr_fit {l : List Int} (ha : AllB l) {i : Nat} (h : rdE l i = 0) : Fit (frK l i) := by
  have := fr_ok ha h
  exact ⟨this.2.2.1, this.1, this.2.2.2.2.1, this.2.2.2.2.2.1⟩
/-- A log up to a frame is made of the frames ahead of it. -/
theorem take_log {l : List Int} (ha : AllB l) (j : Nat) (h : Up l j) : l.take (atF l j) = lgF (fm l) j := by
  induction j with
  | zero => rfl
  | succ j ih =>
    have hu : Up l j := fun i hi => h i (by omega)
    obtain ⟨h1, h2⟩ := h j (by omega)
    have hr := rd_ok ha h2
    have hm := framed (l.drop (atF l j)) (fun x hx => ha x (List.mem_of_mem_drop hx)) (sz (l.drop (atF l j))).toNat (by omega) (by omega) (by omega) (by rw [List.length_drop]; omega)
    rw [lgF, ← ih hu, atF, Nat.add_assoc, List.take_add]
    congr 1
    exact hm.symm
theorem ends_log {l : List Int} (ha : AllB l) (j : Nat) (h : Ends l j 0) : l = lgF (fm l) j := by
  rw [← take_log ha j h.1, List.take_of_length_le]
  rcases h.2 with ⟨h1, _⟩ | ⟨_, _, h3⟩
  · exact h1
  · exact absurd rfl h3
theorem up_fit {l : List Int} (ha : AllB l) {j i : Nat} (h : Up l j) (hi : i < j) : Fit (fm l i) := fr_fit ha (h i hi).2
theorem fit_msE {x : Fm} (h : Fit x) (t : List Int) (ht : t.length = 32) : msE t.length x.k x.b.length = 0 := by
  obtain ⟨h1, h2, h3, h4⟩ := h
  unfold msE payE isK
  rw [if_pos ht, if_pos (decide_eq_true ⟨h3, h4⟩), if_neg (by omega)]
theorem zt_len : zt.length = 32 := by unfold zt; rw [List.length_replicate]
theorem ahd_len {f : Nat → Fm} {n i : Nat} (hf : ∀ i, i < n → Fit (f i)) (hi : i ≤ n) : (ahd f i).length = 32 := by
  unfold ahd
  by_cases h : i = 0
  · rw [if_pos h]; exact zt_len
  · rw [if_neg h]; exact (hf (i - 1) (by omega)).2.1
theorem mgF_eq {f : Nat → Fm} {n i : Nat} (hf : ∀ i, i < n → Fit (f i)) (hi : i < n) : mgF f i = ahd f i ++ (be8 ((i + 1 : Nat) : Int) ++ ((f i).k :: (f i).b)) := by
  unfold mgF mg
  rw [if_pos (fit_msE (hf i hi) _ (ahd_len hf (by omega)))]
  rfl
theorem mgF_inj {f g : Nat → Fm} {n i : Nat} (hf : ∀ i, i < n → Fit (f i)) (hg : ∀ i, i < n → Fit (g i)) (hi : i < n) (h : mgF f i = mgF g i) : ahd f i = ahd g i ∧ (f i).k = (g i).k ∧ (f i).b = (g i).b := by
  rw [mgF_eq hf hi, mgF_eq hg hi] at h
  have h1 := List.append_inj h (by rw [ahd_len hf (by omega), ahd_len hg (by omega)])
  have h2 := List.append_inj h1.2 rfl
  have h3 := List.cons.inj h2.2
  exact ⟨h1.1, h3.1, h3.2⟩

/-- The clash of two lists of frames, gone along from the last one back. -/
def ClR (f g : Nat → Fm) (j : Nat) : Option Nat → Prop
  | some i => i < j ∧ (f i).t = (g i).t ∧ mgF f i ≠ mgF g i ∧ ∀ k, i < k → k < j → (f k).t = (g k).t ∧ mgF f k = mgF g k
  | none => (∀ k, k < j → (f k).t = (g k).t ∧ mgF f k = mgF g k) ∨ ∃ i, i < j ∧ (f i).t ≠ (g i).t ∧ ∀ k, i < k → k < j → (f k).t = (g k).t ∧ mgF f k = mgF g k
theorem ClR.uniq {f g : Nat → Fm} {j : Nat} {r r' : Option Nat} (h : ClR f g j r) (h' : ClR f g j r') : r = r' := by
  cases r with
  | none =>
    cases r' with
    | none => rfl
    | some i' =>
      exfalso
      obtain ⟨a1, a2, a3, a4⟩ := h'
      rcases h with h | ⟨i, b1, b2, b3⟩
      · exact a3 (h i' a1).2
      · rcases Nat.lt_trichotomy i i' with q | q | q
        · exact a3 (b3 i' q a1).2
        · subst q; exact b2 a2
        · exact b2 (a4 i q b1).1
  | some i =>
    obtain ⟨b1, b2, b3, b4⟩ := h
    cases r' with
    | none =>
      exfalso
      rcases h' with h | ⟨i', a1, a2, a3⟩
      · exact b3 (h i b1).2
      · rcases Nat.lt_trichotomy i i' with q | q | q
        · exact a2 (b4 i' q a1).1
        · subst q; exact a2 b2
        · exact b3 (a3 i q b1).2
    | some i' =>
      obtain ⟨a1, a2, a3, a4⟩ := h'
      rcases Nat.lt_trichotomy i i' with q | q | q
      · exact absurd (b4 i' q a1).2 a3
      · rw [q]
      · exact absurd (a4 i q b1).2 b3
/-- The clash of two logs. -/
def ClE (a b : List Int) (r : Option Nat) : Prop := ∃ j E j' E', Ends a j E ∧ Ends b j' E' ∧ (((E ≠ 0 ∨ E' ≠ 0 ∨ j ≠ j') ∧ r = none) ∨ (E = 0 ∧ E' = 0 ∧ j = j' ∧ ClR (fm a) (fm b) j r))
theorem ClE.uniq {a b : List Int} {r r' : Option Nat} (h : ClE a b r) (h' : ClE a b r') : r = r' := by
  obtain ⟨j, E, k, F, h1, h2, h3⟩ := h
  obtain ⟨j', E', k', F', h1', h2', h3'⟩ := h'
  obtain ⟨rfl, rfl⟩ := h1.uniq h1'
  obtain ⟨rfl, rfl⟩ := h2.uniq h2'
  rcases h3 with ⟨p, rfl⟩ | ⟨p1, p2, p3, p4⟩
  · rcases h3' with ⟨_, rfl⟩ | ⟨q1, q2, q3, _⟩
    · rfl
    · rcases p with p | p | p
      · exact absurd q1 p
      · exact absurd q2 p
      · exact absurd q3 p
  · rcases h3' with ⟨q, rfl⟩ | ⟨_, _, _, q4⟩
    · rcases q with q | q | q
      · exact absurd p1 q
      · exact absurd p2 q
      · exact absurd p3 q
    · exact p4.uniq q4
/-- Two logs that are right by one key, of as many frames, with one last tag, and unlike: they clash. -/
theorem right_clash {a b : List Int} (ha : AllB a) (hb : AllB b) {m : Nat} (h1 : Ends a m 0) (h2 : Ends b m 0) (ht : ahd (fm a) m = ahd (fm b) m) (hne : a ≠ b) {r : Option Nat} (h : ClR (fm a) (fm b) m r) : ∃ i, r = some i ∧ i < m := by
  have hfa : ∀ i, i < m → Fit (fm a i) := fun i hi => up_fit ha h1.1 hi
  have hfb : ∀ i, i < m → Fit (fm b i) := fun i hi => up_fit hb h2.1 hi
  cases r with
  | some i => exact ⟨i, rfl, h.1⟩
  | none =>
    exfalso
    rcases h with h | ⟨i, hi, h3, h4⟩
    · apply hne
      rw [ends_log ha m h1, ends_log hb m h2]
      refine lgF_congr (fun i hi => ?_)
      obtain ⟨q1, q2⟩ := h i hi
      obtain ⟨_, q3, q4⟩ := mgF_inj hfa hfb hi q2
      calc fm a i = ⟨(fm a i).k, (fm a i).b, (fm a i).t⟩ := rfl
        _ = ⟨(fm b i).k, (fm b i).b, (fm b i).t⟩ := by rw [q1, q3, q4]
    · rcases Nat.lt_or_ge (i + 1) m with h5 | h5
      · obtain ⟨q, _, _⟩ := mgF_inj hfa hfb h5 (h4 (i + 1) (by omega) h5).2
        exact h3 q
      · obtain rfl : m = i + 1 := by omega
        exact h3 ht

end Go.Proofs.Ytejhncdempfmjaa.ch
