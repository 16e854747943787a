import Derived.Test.YthmdllhhmhbhbaaGreatDoorPkR11
set_option maxRecDepth 100000
set_option maxHeartbeats 4000000
section
namespace Go.Proofs.YthmdllhhmhbhbaaGreatDoor.am
open Go.ChangeShapes Go.WideShapes Go.ChangeAt Go.RowKit
open vt
set_option linter.unusedVariables false
set_option linter.unusedSimpArgs false
def a0v (bad : VT → Bool) (e : Int) : List VT → JS → JS
  | [], j => j
  | t :: r, j => a0v bad e r (if bad t = true then p7 t.lab e j else j)
theorem b1d {bad : VT → Bool} {e : Int} : ∀ {l : List VT} {j : JS}, (∀ t ∈ l, bad t = false) → a0v bad e l j = j
  | [], j, _ => rfl
  | t :: r, j, h => by
    unfold a0v
    rw [h t (by simp), if_neg (by decide)]
    exact b1d (fun y hy => h y (by simp [hy]))
theorem b1e {bad : VT → Bool} {e : Int} (he : ¬ e = 0) : ∀ {l : List VT} {j : JS}, (a0v bad e l j).er = 0 → (∀ t ∈ l, bad t = false) ∧ a0v bad e l j = j
  | [], j, _ => ⟨fun t ht => by simp at ht, rfl⟩
  | t :: r, j, h => by
    unfold a0v at h ⊢
    obtain ⟨h1, h2⟩ := b1e he h
    rw [h2] at h ⊢
    by_cases hb : bad t = true
    · rw [if_pos hb] at h; exact absurd h (t6 he)
    · rw [if_neg hb]
      refine ⟨fun y hy => ?_, rfl⟩
      rcases List.mem_cons.1 hy with e | e
      · rw [e]; simpa using hb
      · exact h1 y e
noncomputable def a1w (m : VT) (t : VT) : Bool := decide (a1j m t = 0)
noncomputable def b5s (m : VT) (n : Int) (t : VT) : Bool := decide (n = 1) && !(decide (0 < a1j m t) && a6t t)
def c07 (t : VT) : Bool := decide (t.kids.length = 0) && (decide (t.lab.k = 5) || (decide (t.lab.k = 6) && (decide (t.lab.n = 0) || decide (t.lab.n = 1))))
def typB (t : VT) : Bool := decide (1 ≤ t.lab.k) && decide (t.lab.k ≤ 4)
def fnB (x : Lab) (l : List VT) : Bool := (decide (x.n = 0) || decide (x.n = 1)) && decide (l.length = 3) && decide ((l.getD 0 z0T).lab.k = 35) && c1f (l.getD 0 z0T).kids && typB (l.getD 1 z0T) && decide ((l.getD 2 z0T).lab.k = 29)
noncomputable def fnS (m : VT) (x : Lab) (l : List VT) (j : JS) : JS :=
  ⟨(a18 (.mk x l)).map a0r, (a0v (b5s m x.n) 12 (a18 (.mk x l) ++ [l.getD 1 z0T]) (a0v (a1w m) 11 (a18 (.mk x l) ++ [l.getD 1 z0T]) j)).at', (a0v (b5s m x.n) 12 (a18 (.mk x l) ++ [l.getD 1 z0T]) (a0v (a1w m) 11 (a18 (.mk x l) ++ [l.getD 1 z0T]) j)).er⟩
noncomputable def fnJ (m : VT) (x : Lab) (l : List VT) (j : JS) : VT × JS :=
  if fnB x l = false then (z0T, p7 x 12 j)
  else (.mk ⟨x.k, x.n, ⟨#[]⟩, 0, 0⟩ [i7 (l.getD 0 z0T), i7 (l.getD 1 z0T), (j7 m (l.getD 1 z0T) (l.getD 2 z0T) (fnS m x l j)).1], (j7 m (l.getD 1 z0T) (l.getD 2 z0T) (fnS m x l j)).2)
noncomputable def a1d (m : VT) (i : Nat) (t : VT) (j : JS) : VT × JS :=
  if t.lab.k = 33 then fnJ m t.lab t.kids j
  else (i7 t, if t.lab.k = 30 then (if b8m t = false then p7 t.lab 12 j else if a1j m (.mk ⟨4, i, ⟨#[]⟩, 0, 0⟩ []) = 0 then p7 t.lab 11 j else j)
    else if t.lab.k = 31 then (if ¬ t.kids.length = 1 ∨ c07 (t.kids.getD 0 z0T) = false then p7 t.lab 12 j else j)
    else if t.lab.k = 32 then (if ¬ t.kids.length = 1 then p7 t.lab 12 j else a8l m (t.kids.getD 0 z0T) j)
    else p7 t.lab 12 j)
noncomputable def m9 (m : VT) : Nat → List VT → JS → List VT × JS
  | _, [], j => ([], j)
  | i, d :: r, j => if j.er = 0 then ((a1d m i d j).1 :: (m9 m (i + 1) r (a1d m i d j).2).1, (m9 m (i + 1) r (a1d m i d j).2).2) else m9 m (i + 1) r j
noncomputable def a2v (m : VT) : JS := if m.lab.k = 36 then ⟨[], 0, 0⟩ else p7 m.lab 12 ⟨[], 0, 0⟩
noncomputable def a3w (m : VT) : VT × Int × Int :=
  if (m9 m 0 m.kids (a2v m)).2.er = 0 then (.mk ⟨m.lab.k, m.lab.n, ⟨#[]⟩, 0, 0⟩ (m9 m 0 m.kids (a2v m)).1, 0, 0)
  else (z0T, (m9 m 0 m.kids (a2v m)).2.at', (m9 m 0 m.kids (a2v m)).2.er)
theorem c47 (d : VT) : b8m (i7 d) = b8m d := by
  unfold b8m
  rw [b3f, r7, List.all_map, List.isEmpty_map, show (r9 ∘ i7) = r9 from funext a25]
theorem c43 (t : VT) : c07 (i7 t) = c07 t := by unfold c07; rw [r7, List.length_map, b3f, nl_n]
theorem c48 (t : VT) : typB (i7 t) = typB t := by unfold typB; rw [b3f]
theorem c44 (l : List VT) : c1f (l.map i7) = c1f l := by unfold c1f; rw [List.all_map, show (r9 ∘ i7) = r9 from funext a25]
theorem nl_frT (t : VT) : a6t (i7 t) = a6t t := by
  induction t using Tr.ind with
  | h x l ih =>
  rw [n9, b1r, b1r, List.all_map]
  congr 1
  rw [Bool.eq_iff_iff, List.all_eq_true, List.all_eq_true]
  exact ⟨fun h y hy => by rw [← ih y hy]; exact h y hy, fun h y hy => by show a6t (i7 y) = true; rw [ih y hy]; exact h y hy⟩
theorem c55 (y z x : Lab) (a b c b' c' : VT) : a18 (.mk y [i7 a, b', c']) = (a18 (.mk x [a, b, c])).map i7 := by
  show (i7 a).kids.map (fun q => q.kids.getD 0 z0T) = (a.kids.map (fun q => q.kids.getD 0 z0T)).map i7
  rw [r7, List.map_map, List.map_map]
  exact List.map_congr_left (fun q _ => by show (i7 q).kids.getD 0 z0T = i7 (q.kids.getD 0 z0T); rw [r7, y6])
theorem b1g {m : VT} {i : Nat} {t : VT} {j : JS} (h : ¬ t.lab.k = 33) : (a1d m i t j).1 = i7 t := by unfold a1d; rw [if_neg h]
theorem c2o {m : VT} {x : Lab} {l : List VT} {j : JS} (h : (fnJ m x l j).2.er = 0) : fnB x l = true ∧ (j7 m (l.getD 1 z0T) (l.getD 2 z0T) (fnS m x l j)).2.er = 0 := by
  unfold fnJ at h
  by_cases hb : fnB x l = false
  · rw [if_pos hb] at h; exact absurd h (t6 (by decide))
  · rw [if_neg hb] at h; exact ⟨by simpa using hb, h⟩
theorem c0r {m : VT} {i : Nat} {t : VT} {j : JS} (h : (a1d m i t j).2.er = 0) : Sdd t (a1d m i t j).1 := by
  by_cases h33 : t.lab.k = 33
  · obtain ⟨x, l⟩ := t
    have h33 : x.k = 33 := h33
    have e : a1d m i (.mk x l) j = fnJ m x l j := by unfold a1d; exact if_pos h33
    rw [e] at h ⊢
    obtain ⟨hb, hs⟩ := c2o h
    have e2 : fnJ m x l j = (.mk ⟨x.k, x.n, ⟨#[]⟩, 0, 0⟩ [i7 (l.getD 0 z0T), i7 (l.getD 1 z0T), (j7 m (l.getD 1 z0T) (l.getD 2 z0T) (fnS m x l j)).1], (j7 m (l.getD 1 z0T) (l.getD 2 z0T) (fnS m x l j)).2) := by unfold fnJ; rw [if_neg (by rw [hb]; simp)]
    rw [e2]
    have hl : l.length = 3 := by
      unfold fnB at hb; simp only [Bool.and_eq_true, decide_eq_true_eq] at hb; exact hb.1.1.1.1.2
    obtain ⟨a, b, c, rfl⟩ := t7 hl
    exact ⟨rfl, fun g => absurd h33 g, fun _ => ⟨x, _, a, b, c, _, rfl, rfl⟩⟩
  · rw [b1g h33]
    exact ⟨b3f t, fun _ => rfl, fun g => absurd g h33⟩
section
variable {m s : VT} (M : Sd m s)
include M
theorem Sd.dec {i : Nat} {t : VT} {j : JS} (h : (a1d m i t j).2.er = 0) : i7 (a1d m i t j).1 = (a1d m i t j).1 ∧ a1d s i (a1d m i t j).1 (nlJ j) = ((a1d m i t j).1, nlJ (a1d m i t j).2) := by
  by_cases h33 : t.lab.k = 33
  · obtain ⟨x, l⟩ := t
    have h33 : x.k = 33 := h33
    have e : a1d m i (.mk x l) j = fnJ m x l j := by unfold a1d; exact if_pos h33
    rw [e] at h ⊢
    obtain ⟨hb, hs⟩ := c2o h
    have e2 : fnJ m x l j = (.mk ⟨x.k, x.n, ⟨#[]⟩, 0, 0⟩ [i7 (l.getD 0 z0T), i7 (l.getD 1 z0T), (j7 m (l.getD 1 z0T) (l.getD 2 z0T) (fnS m x l j)).1], (j7 m (l.getD 1 z0T) (l.getD 2 z0T) (fnS m x l j)).2) := by unfold fnJ; rw [if_neg (by rw [hb]; simp)]
    have hb' := hb
    unfold fnB at hb'
    simp only [Bool.and_eq_true, decide_eq_true_eq] at hb'
    obtain ⟨⟨⟨⟨⟨b1, b2⟩, b3⟩, b4⟩, b5⟩, b6⟩ := hb'
    obtain ⟨a, b, c, rfl⟩ := t7 b2
    have g0 : [a, b, c].getD 0 z0T = a := rfl
    have g1 : [a, b, c].getD 1 z0T = b := rfl
    have g2 : [a, b, c].getD 2 z0T = c := rfl
    rw [g0] at b3 b4
    rw [g1] at b5
    rw [g2] at b6
    rw [g1, g2] at hs
    rw [g0, g1, g2] at e2
    have ho := M.stm b c _ hs
    obtain ⟨c', hc'⟩ : ∃ c', (j7 m b c (fnS m x [a, b, c] j)).1 = c' := ⟨_, rfl⟩
    have hk := ho.k; have hnl := ho.nl; have hst := ho.st
    rw [hc'] at e2 hk hnl hst
    rw [e2]
    refine ⟨by dsimp only; rw [n9]; simp only [List.map_cons, List.map_nil, b41, hnl], ?_⟩
    dsimp only
    have e3 : a1d s i (.mk ⟨x.k, x.n, ⟨#[]⟩, 0, 0⟩ [i7 a, i7 b, c']) (nlJ j) = fnJ s ⟨x.k, x.n, ⟨#[]⟩, 0, 0⟩ [i7 a, i7 b, c'] (nlJ j) := by unfold a1d; exact if_pos h33
    rw [e3]
    have hbs : fnB ⟨x.k, x.n, ⟨#[]⟩, 0, 0⟩ [i7 a, i7 b, c'] = true := by
      unfold fnB
      rw [show [i7 a, i7 b, c'].getD 0 z0T = i7 a from rfl, show [i7 a, i7 b, c'].getD 1 z0T = i7 b from rfl, show [i7 a, i7 b, c'].getD 2 z0T = c' from rfl, b3f, r7, c44, c48, hk, b3, b4, b5, b6]
      dsimp only
      rw [b1]; rfl
    -- the state ahead of the block
    have her : (fnS m x [a, b, c] j).er = 0 := ho.er
    have her' : (a0v (b5s m x.n) 12 (a18 (.mk x [a, b, c]) ++ [b]) (a0v (a1w m) 11 (a18 (.mk x [a, b, c]) ++ [b]) j)).er = 0 := her
    obtain ⟨p1, p2⟩ := b1e (by decide) her'
    rw [p2] at her'
    obtain ⟨q1, q2⟩ := b1e (by decide) her'
    have eS : fnS m x [a, b, c] j = ⟨(a18 (.mk x [a, b, c])).map a0r, j.at', j.er⟩ := by
      unfold fnS
      rw [g1, p2, q2]
    have hty : a18 (.mk ⟨x.k, x.n, ⟨#[]⟩, 0, 0⟩ [i7 a, i7 b, c']) = (a18 (.mk x [a, b, c])).map i7 := c55 _ x x a b c (i7 b) c'
    have hall : a18 (.mk ⟨x.k, x.n, ⟨#[]⟩, 0, 0⟩ [i7 a, i7 b, c']) ++ [i7 b] = (a18 (.mk x [a, b, c]) ++ [b]).map i7 := by rw [hty, List.map_append]; rfl
    have q1' : ∀ t ∈ a18 (.mk ⟨x.k, x.n, ⟨#[]⟩, 0, 0⟩ [i7 a, i7 b, c']) ++ [i7 b], a1w s t = false := by
      rw [hall]
      intro t ht
      obtain ⟨u, hu, rfl⟩ := List.mem_map.1 ht
      have := q1 u hu
      unfold a1w at this ⊢
      rw [M.cel]; exact this
    have p1' : ∀ t ∈ a18 (.mk ⟨x.k, x.n, ⟨#[]⟩, 0, 0⟩ [i7 a, i7 b, c']) ++ [i7 b], b5s s x.n t = false := by
      rw [hall]
      intro t ht
      obtain ⟨u, hu, rfl⟩ := List.mem_map.1 ht
      have := p1 u hu
      unfold b5s at this ⊢
      rw [M.cel, nl_frT]; exact this
    have eS' : fnS s ⟨x.k, x.n, ⟨#[]⟩, 0, 0⟩ [i7 a, i7 b, c'] (nlJ j) = nlJ (fnS m x [a, b, c] j) := by
      rw [eS]
      unfold fnS
      rw [show [i7 a, i7 b, c'].getD 1 z0T = i7 b from rfl, b1d q1']
      dsimp only
      rw [b1d p1', hty]
      unfold nlJ
      dsimp only
      rw [List.map_map, List.map_map, show (a0r ∘ i7) = (i7 ∘ a0r) from funext fun t => by show a0r (i7 t) = i7 (a0r t); rw [(a1f t).1, (a1f t).2]]
    unfold fnJ
    rw [if_neg (by rw [hbs]; simp), show [i7 a, i7 b, c'].getD 0 z0T = i7 a from rfl, show [i7 a, i7 b, c'].getD 1 z0T = i7 b from rfl, show [i7 a, i7 b, c'].getD 2 z0T = c' from rfl, eS', hst, b41, b41]
  · have h1 : (a1d m i t j).1 = i7 t := b1g h33
    rw [h1]
    refine ⟨b41 t, ?_⟩
    have h33' : ¬ (i7 t).lab.k = 33 := by rw [b3f]; exact h33
    have e : ∀ (m t : VT) (j : JS), ¬ t.lab.k = 33 → (a1d m i t j).2 = (if t.lab.k = 30 then (if b8m t = false then p7 t.lab 12 j else if a1j m (.mk ⟨4, i, ⟨#[]⟩, 0, 0⟩ []) = 0 then p7 t.lab 11 j else j)
    else if t.lab.k = 31 then (if ¬ t.kids.length = 1 ∨ c07 (t.kids.getD 0 z0T) = false then p7 t.lab 12 j else j)
    else if t.lab.k = 32 then (if ¬ t.kids.length = 1 then p7 t.lab 12 j else a8l m (t.kids.getD 0 z0T) j)
    else p7 t.lab 12 j) := fun m t j h => by unfold a1d; rw [if_neg h]
    have e1 := e m t j h33
    have e2 := e s (i7 t) (nlJ j) h33'
    have hp : a1d s i (i7 t) (nlJ j) = (i7 (i7 t), (a1d s i (i7 t) (nlJ j)).2) := by
      rw [← b1g (m := s) (i := i) (j := nlJ j) h33']
    rw [hp, b41]
    congr 1
    rw [e2, e1]
    rw [e1] at h
    rw [b3f, c47, r7, List.length_map, y6, c43]
    by_cases k30 : t.lab.k = 30
    · rw [if_pos k30] at h ⊢
      rw [if_pos k30]
      by_cases hs : b8m t = false
      · rw [if_pos hs] at h; exact absurd h (t6 (by decide))
      rw [if_neg hs] at h ⊢
      rw [if_neg hs]
      have ec : a1j s (.mk ⟨4, i, ⟨#[]⟩, 0, 0⟩ []) = a1j m (.mk ⟨4, i, ⟨#[]⟩, 0, 0⟩ []) := by
        have := M.cel (.mk ⟨4, i, ⟨#[]⟩, 0, 0⟩ [])
        rwa [show i7 (.mk ⟨4, i, ⟨#[]⟩, 0, 0⟩ []) = .mk ⟨4, i, ⟨#[]⟩, 0, 0⟩ [] by rw [n9]; rfl] at this
      rw [ec]
      by_cases hc : a1j m (.mk ⟨4, i, ⟨#[]⟩, 0, 0⟩ []) = 0
      · rw [if_pos hc] at h; exact absurd h (t6 (by decide))
      rw [if_neg hc, if_neg hc]
    rw [if_neg k30] at h ⊢
    rw [if_neg k30]
    by_cases k31 : t.lab.k = 31
    · rw [if_pos k31] at h ⊢
      rw [if_pos k31]
      by_cases hs : ¬ t.kids.length = 1 ∨ c07 (t.kids.getD 0 z0T) = false
      · rw [if_pos hs] at h; exact absurd h (t6 (by decide))
      rw [if_neg hs, if_neg hs]
    rw [if_neg k31] at h ⊢
    rw [if_neg k31]
    by_cases k32 : t.lab.k = 32
    · rw [if_pos k32] at h ⊢
      rw [if_pos k32]
      by_cases hs : ¬ t.kids.length = 1
      · rw [if_pos hs] at h; exact absurd h (t6 (by decide))
      rw [if_neg hs] at h ⊢
      rw [if_neg hs]
      unfold a8l at h ⊢
      rw [M.cel]
      by_cases hc : a1j m (t.kids.getD 0 z0T) = 0
      · rw [if_pos hc] at h; exact absurd h (t6 (by decide))
      rw [if_neg hc, if_neg hc]
    rw [if_neg k32] at h
    exact absurd h (t6 (by decide))
end
theorem a10 {m : VT} : ∀ {l : List VT} {i : Nat} {j : JS}, (m9 m i l j).2.er = 0 → j.er = 0
  | [], i, j, h => h
  | d :: r, i, j, h => by
    refine Classical.byContradiction fun h0 => ?_
    unfold m9 at h
    rw [if_neg h0] at h
    exact h0 (a10 h)
theorem a3o {m : VT} {i : Nat} {d : VT} {r : List VT} {j : JS} (h : j.er = 0) : m9 m i (d :: r) j = ((a1d m i d j).1 :: (m9 m (i + 1) r (a1d m i d j).2).1, (m9 m (i + 1) r (a1d m i d j).2).2) := by
  conv => lhs; unfold m9
  rw [if_pos h]
theorem b2u {m : VT} : ∀ {l : List VT} {i : Nat} {j : JS}, (m9 m i l j).2.er = 0 → (m9 m i l j).1.length = l.length ∧ ∀ (k : Nat) d, l[k]? = some d → ∃ e, (m9 m i l j).1[k]? = some e ∧ Sdd d e
  | [], i, j, h => ⟨rfl, fun k d hd => by simp at hd⟩
  | d :: r, i, j, h => by
    have h0 := a10 h
    rw [a3o h0] at h ⊢
    dsimp only at h ⊢
    obtain ⟨a1, a2⟩ := b2u h
    refine ⟨by rw [List.length_cons, List.length_cons, a1], fun k e he => ?_⟩
    cases k with
    | zero =>
      cases he
      exact ⟨_, rfl, c0r (a10 h)⟩
    | succ k => exact a2 k e he
theorem Sd.decs {m s : VT} (M : Sd m s) : ∀ {l : List VT} {i : Nat} {j : JS}, (m9 m i l j).2.er = 0 → (m9 m i l j).1.map i7 = (m9 m i l j).1 ∧ m9 s i (m9 m i l j).1 (nlJ j) = ((m9 m i l j).1, nlJ (m9 m i l j).2)
  | [], i, j, h => ⟨rfl, rfl⟩
  | d :: r, i, j, h => by
    have h0 := a10 h
    rw [a3o h0] at h ⊢
    dsimp only at h ⊢
    obtain ⟨a1, a2⟩ := Sd.decs M h
    obtain ⟨b1, b2⟩ := M.dec (a10 h)
    refine ⟨by rw [List.map_cons, a1, b1], ?_⟩
    rw [a3o (show (nlJ j).er = 0 from h0), b2]
    dsimp only
    rw [a2]
theorem a38 {m : VT} (h : (a3w m).2.2 = 0) : a3w (a3w m).1 = ((a3w m).1, 0, 0) ∧ i7 (a3w m).1 = (a3w m).1 := by
  have her : (m9 m 0 m.kids (a2v m)).2.er = 0 := by
    refine Classical.byContradiction fun h0 => ?_
    unfold a3w at h
    rw [if_neg h0] at h
    exact h0 h
  have e : a3w m = (.mk ⟨m.lab.k, m.lab.n, ⟨#[]⟩, 0, 0⟩ (m9 m 0 m.kids (a2v m)).1, 0, 0) := by unfold a3w; rw [if_pos her]
  have hk : m.lab.k = 36 := Classical.byContradiction fun hk => by
    have := a10 her
    unfold a2v at this; rw [if_neg hk] at this
    exact t6 (by decide) this
  rw [e]
  dsimp only
  obtain ⟨o, ho⟩ : ∃ o, (m9 m 0 m.kids (a2v m)).1 = o := ⟨_, rfl⟩
  obtain ⟨a1, a2⟩ := b2u her
  rw [ho] at a1 a2
  have M : Sd m (.mk ⟨m.lab.k, m.lab.n, ⟨#[]⟩, 0, 0⟩ o) := ⟨a1, a2⟩
  obtain ⟨b1, b2⟩ := M.decs her
  rw [ho] at b1 b2 ⊢
  have hb : a2v m = ⟨[], 0, 0⟩ := by unfold a2v; rw [if_pos hk]
  have hb' : a2v (.mk ⟨m.lab.k, m.lab.n, ⟨#[]⟩, 0, 0⟩ o) = nlJ (a2v m) := by rw [hb]; unfold a2v; exact if_pos hk
  refine ⟨?_, by rw [n9, b1]⟩
  unfold a3w
  rw [hb']
  show (if (m9 (.mk ⟨m.lab.k, m.lab.n, ⟨#[]⟩, 0, 0⟩ o) 0 o (nlJ (a2v m))).2.er = 0 then (Tr.mk ⟨m.lab.k, m.lab.n, ⟨#[]⟩, 0, 0⟩ (m9 (.mk ⟨m.lab.k, m.lab.n, ⟨#[]⟩, 0, 0⟩ o) 0 o (nlJ (a2v m))).1, (0 : Int), (0 : Int)) else _) = _
  rw [b2]
  exact if_pos her
end Go.Proofs.YthmdllhhmhbhbaaGreatDoor.am
end
section
namespace Go.Proofs.YthmdllhhmhbhbaaGreatDoor.am
open Go.ChangeShapes Go.WideShapes Go.ChangeAt Go.RowKit
open vt
set_option linter.unusedVariables false
set_option linter.unusedSimpArgs false
theorem a9x {α β : Type} {f : α → β} {l : List α} {k : Nat} {y : α} (h : l[k]? = some y) : (l.take (k + 1)).map f = (l.take k).map f ++ [f y] := by rw [List.take_add_one, h]; simp
theorem b76 {pl : List VT} (hp : c1f pl = true) {k : Nat} {qx : Lab} {ql : List VT} (h : pl[k]? = some (.mk qx ql)) : ∃ u, ql = [u] := by
  have := List.all_eq_true.1 hp _ (List.mem_of_getElem? h)
  simp [r9, Tr.kids] at this
  exact s9 (of_decide_eq_true this.2)
noncomputable def a8z (pl : List VT) : List VT := (pl.map fun q => q.kids.getD 0 z0T).map a0r
theorem b4u (m ret : VT) (a e : Int) (x fx : Lab) (fl l : List VT) (hp : c1f fl = true) (hsz : (Tr.mk fx fl).size ≤ 400000) : Row Tryz.prog 25 [.v (.c (.ptr 0 0)), vT (.mk x (.mk fx fl :: l))] [bxJ 1 m ret 0 a e, arJ []] (.tup []) [some (bxJ 2 m ret (a8z fl).length a e), none, some (arJ (a8z fl))] := by
  have hfl := Tr.len_size (x := fx) (l := fl)
  obtain ⟨mx, ml⟩ := m
  obtain ⟨rx, rl⟩ := ret
  have p0 : a8z (List.take 0 fl) = [] := rfl
  refine e8 Tryz.func25 rfl rfl (Nat.le_of_ble_eq_true rfl) ?_
  refine l9 1 0 12 _ 24 6 0 (([] : List VT).map tc) rfl rfl (.inr rfl) (show (1 : Nat) < 2 by decide) (show (0 : Nat) < 2 by decide) ?_
  simp [St.mvw]
  repeat (first | refine d7 ?_ | refine b9 ?_ | refine a8 ?_ | refine b8 ?_ | refine f7 rfl ?_ | refine f6 rfl ?_ | ((first | refine d6 (fun K hK => ?_) | refine d8 f8 (fun K hK => ?_) | fail); simp -implicitDefEqProofs; first | refine hK _ ?_ | refine hK _ _ (by rfl) ?_ | fail) | fail)
  refine v7 (ι := Nat) (fun k => a0w [(0, .v (.c (.ptr 0 0))), (10, vLs fl), (11, vI (fl.length : Nat)), (12, vI (k : Nat))] [some (bxJ 2 (.mk mx ml) (.mk rx rl) (a8z (fl.take k)).length a e), none, some (arJ (a8z (fl.take k)))]) (fun k => k ≤ fl.length) (fun k => fl.length - k) 0 (Nat.zero_le _) (by rw [p0]; exact a2f [] rfl (by simp -implicitDefEqProofs) (by simp -implicitDefEqProofs) (by first | decide | (simp; done)) rfl (by simp)) (fun Z hI k hk => ?_)
  by_cases hkl : k < fl.length; rotate_left
  · have : k = fl.length := by omega
    subst this
    rw [List.take_length]
    repeat (first | refine d7 ?_ | refine b9 ?_ | refine a8 ?_ | refine b8 ?_ | refine f7 rfl ?_ | refine f6 rfl ?_ | ((first | refine d6 (fun K hK => ?_) | refine d8 f8 (fun K hK => ?_) | fail); simp -implicitDefEqProofs; first | refine hK _ ?_ | refine hK _ _ (by rfl) ?_ | fail) | fail)
    refine o8 (m7 [] rfl ?_); simp -implicitDefEqProofs [l4, g7, g9] <;> try rfl
  obtain ⟨⟨ax, al⟩, ha⟩ : ∃ a, fl[k]? = some a := ⟨_, List.getElem?_eq_getElem hkl⟩
  have ha' := (List.getElem?_eq_some_iff.1 ha).2
  have hsz1 := Tr.size_at (x := fx) ha
  have w2 : IntKind.i64.wrap ((k : Nat) + 1 : Int) = (k : Nat) + 1 := v6 _ (by omega) (by omega)
  obtain ⟨⟨ux, ul⟩, rfl⟩ := b76 hp ha
  have hus := Tr.size_at (x := ax) (l := [Tr.mk ux ul]) (i := 0) rfl
  have hb := a1x (.mk ux ul) (by omega)
  have hs : a8z (fl.take (k + 1)) = a8z (fl.take k) ++ [a0r (.mk ux ul)] := by
    unfold a8z
    rw [a9x ha, List.map_append]
    rfl
  have hQl : (a8z (fl.take k)).length ≤ 400000 := by unfold a8z; rw [List.length_map, List.length_map, List.length_take]; omega
  obtain ⟨⟨bx, bl⟩, hbb⟩ : ∃ b, a0r (.mk ux ul) = b := ⟨_, rfl⟩
  rw [hbb] at hb hs
  obtain ⟨Q, hQ⟩ : ∃ Q, a8z (fl.take k) = Q := ⟨_, rfl⟩
  rw [hQ] at hs hQl ⊢
  have hbr := a11 (.mk mx ml) (.mk rx rl) Q Q (a13 _) (by omega) a e bx bl
  have hEl : (Q ++ [Tr.mk bx bl]).length = Q.length + 1 := by simp
  repeat' (first | refine d7 ?_ | refine b9 ?_ | refine a8 ?_ | refine b8 ?_ | refine f7 rfl ?_ | refine f6 rfl ?_ | ((first | refine d6 (fun K hK => ?_) | refine d8 f8 (fun K hK => ?_) | refine b7 (cp hb ?_) | refine a6 (dp hb ?_) | refine b7 (cgJ hbr 0 rfl ?_) | refine a6 (dgJ hbr 0 rfl ?_) | fail); simp -implicitDefEqProofs [hkl, ha, ha', w2]) | refine hK _ ?_ | refine hK _ _ (by rfl) ?_ | fail)
  refine ⟨k + 1, by omega, (by dsimp only; omega), ?_⟩
  rw [hI, hs, hEl]; exact a2f [] rfl (by simp -implicitDefEqProofs) (by simp -implicitDefEqProofs) (by first | decide | (simp; done)) rfl (by simp)
theorem b4v (m t : VT) (hm : p6 m) (hms : m.size ≤ 1000000) (ht : p6 t) (hts : t.size ≤ 1000000) : Row Tryz.prog 54 [vT m, vT t] [] (vB (decide (0 < a1j m t) && a6t t)) [] := by
  have h1 := a1y m t hm hms ht hts
  have h2 := c01 t hts
  obtain ⟨c, hc⟩ : ∃ c, a1j m t = c := ⟨_, rfl⟩
  obtain ⟨b, hb⟩ : ∃ b, a6t t = b := ⟨_, rfl⟩
  rw [hc] at h1 ⊢
  rw [hb] at h2 ⊢
  obtain ⟨mx, ml⟩ := m
  obtain ⟨tx, tl⟩ := t
  by_cases h0 : 0 < c
  · cases b with
    | true =>
      refine e8 Tryz.func54 rfl rfl (Nat.le_of_ble_eq_true rfl) ?_
      repeat' (first | refine d7 ?_ | refine b9 ?_ | refine a8 ?_ | refine b8 ?_ | refine f7 rfl ?_ | refine f6 rfl ?_ | ((first | refine d6 (fun K hK => ?_) | refine d8 f8 (fun K hK => ?_) | refine b7 (cp h1 ?_) | refine a6 (dp h1 ?_) | refine b7 (cp h2 ?_) | refine a6 (dp h2 ?_) | fail); simp -implicitDefEqProofs [h0]) | refine hK _ ?_ | refine hK _ _ (by rfl) ?_ | fail)
      refine e7 (e9 ?_); simp -implicitDefEqProofs [j9, g7, g9, h0] <;> try rfl
    | false =>
      refine e8 Tryz.func54 rfl rfl (Nat.le_of_ble_eq_true rfl) ?_
      repeat' (first | refine d7 ?_ | refine b9 ?_ | refine a8 ?_ | refine b8 ?_ | refine f7 rfl ?_ | refine f6 rfl ?_ | ((first | refine d6 (fun K hK => ?_) | refine d8 f8 (fun K hK => ?_) | refine b7 (cp h1 ?_) | refine a6 (dp h1 ?_) | refine b7 (cp h2 ?_) | refine a6 (dp h2 ?_) | fail); simp -implicitDefEqProofs [h0]) | refine hK _ ?_ | refine hK _ _ (by rfl) ?_ | fail)
      refine e7 (e9 ?_); simp -implicitDefEqProofs [j9, g7, g9, h0] <;> try rfl
  · refine e8 Tryz.func54 rfl rfl (Nat.le_of_ble_eq_true rfl) ?_
    repeat' (first | refine d7 ?_ | refine b9 ?_ | refine a8 ?_ | refine b8 ?_ | refine f7 rfl ?_ | refine f6 rfl ?_ | ((first | refine d6 (fun K hK => ?_) | refine d8 f8 (fun K hK => ?_) | refine b7 (cp h1 ?_) | refine a6 (dp h1 ?_) | refine b7 (cp h2 ?_) | refine a6 (dp h2 ?_) | fail); simp -implicitDefEqProofs [h0]) | refine hK _ ?_ | refine hK _ _ (by rfl) ?_ | fail)
    refine e7 (e9 ?_); simp -implicitDefEqProofs [j9, g7, g9, h0] <;> try rfl
theorem a4w (bad : VT → Bool) (e : Int) (y : VT) : ∀ (l : List VT) (j : JS), a0v bad e (l ++ [y]) j = if bad y = true then p7 y.lab e (a0v bad e l j) else a0v bad e l j
  | [], j => rfl
  | z :: l, j => by
    rw [List.cons_append]
    unfold a0v
    rw [a4w bad e y l]
theorem a7r (bad : VT → Bool) (e : Int) : ∀ (l : List VT) (j : JS), (a0v bad e l j).lo = j.lo
  | [], j => rfl
  | z :: l, j => by
    unfold a0v
    rw [a7r bad e l]
    split
    · exact u5 _ _ _
    · rfl
theorem a0h (x : Lab) (e : Int) (j : JS) : p7 x e j = ⟨j.lo, if j.er = 0 then x.f else j.at', if j.er = 0 then e else j.er⟩ := by
  unfold p7; split <;> rfl
theorem b4s (m ret : VT) (x : Lab) (a b c : VT) (hsc : SOk m ret c) (ha : p6 a) (hb : p6 b) (j : JS) (E : List VT) : ∃ E', ∀ B : Nat, OkV j.lo E → Cm m j.lo ret B (a.size + b.size + c.size + 1) → OkV (b1q m [a, b, c] (j7 m ret c) j).2.lo E' ∧ Row Tryz.prog 88 [.v (.c (.ptr 0 0)), vT (.mk x [a, b, c])] [bxJ 1 m ret j.lo.length j.at' j.er, arJ E] (vLs (b1q m [a, b, c] (j7 m ret c) j).1) [some (bxJ 2 m ret (b1q m [a, b, c] (j7 m ret c) j).2.lo.length (b1q m [a, b, c] (j7 m ret c) j).2.at' (b1q m [a, b, c] (j7 m ret c) j).2.er), none, some (arJ E')] := by
  unfold b1q
  simp only [List.getD_cons_zero, List.getD_cons_succ]
  have l1 := w8 m a (fun t => isT t 1) j
  have hp : ∀ x l, Row Tryz.prog 138 [vT (.mk x l)] [] (vB (isT (.mk x l) 1)) [] := a6y
  have hr1 := fun B hE hc has => a73 m ret B j E hE hc a ha has 138 (fun t => isT t 1) hp
  obtain ⟨⟨⟨sx, sl⟩, ⟨L1, a1, e1⟩⟩, h1⟩ : ∃ r, ofJ m a (fun t => isT t 1) j = r := ⟨_, rfl⟩
  rw [h1] at l1 ⊢
  simp only [h1] at hr1
  dsimp only at l1 hr1 ⊢
  subst l1
  have l2 := w8 m b (fun t => isT t 1) ⟨j.lo, a1, e1⟩
  have hr2 := fun B hE hc hbs => a73 m ret B ⟨j.lo, a1, e1⟩ E hE hc b hb hbs 138 (fun t => isT t 1) hp
  obtain ⟨⟨⟨px, pl⟩, ⟨L2, a2, e2⟩⟩, h2⟩ : ∃ r, ofJ m b (fun t => isT t 1) ⟨j.lo, a1, e1⟩ = r := ⟨_, rfl⟩
  rw [h2] at l2 ⊢
  simp only [h2] at hr2
  dsimp only at l2 hr2 ⊢
  subst l2
  clear h1 h2 hp
  obtain ⟨L, a0, e0⟩ := j
  dsimp only at hr1 hr2 ⊢
  obtain ⟨E', hE'⟩ := hsc (a2q (tyT 1) ⟨L, a2, e2⟩) (L ++ [tyT 1])
  have hge := c3a m ret c (a2q (tyT 1) ⟨L, a2, e2⟩)
  have hgl : (a2q (tyT 1) ⟨L, a2, e2⟩).lo = L ++ [tyT 1] := rfl
  have hg2 : (a2q (tyT 1) ⟨L, a2, e2⟩).at' = a2 := rfl
  have hg3 : (a2q (tyT 1) ⟨L, a2, e2⟩).er = e2 := rfl
  rw [hgl, hg2, hg3] at hE'
  rw [hgl] at hge
  obtain ⟨⟨⟨qx, ql⟩, ⟨L3, a3, e3⟩⟩, h3⟩ : ∃ r, j7 m ret c (a2q (tyT 1) ⟨L, a2, e2⟩) = r := ⟨_, rfl⟩
  rw [h3] at hE' hge ⊢
  dsimp only at hE' hge ⊢
  clear h3 hgl hg2 hg3
  refine ⟨E', fun B hE hc => ?_⟩
  have hcl := hc.len
  have hce := hc.le
  have hB1 : 1 ≤ B := Nat.le_trans (Tr.size_pos m) hc.hm.2
  have hcm : Cm m (L ++ [tyT 1]) ret B c.size := ⟨hc.hm, fun t ht => by
    rcases List.mem_append.1 ht with ht | ht
    · exact hc.hL t ht
    · rw [List.mem_singleton.1 ht]; exact a0u hB1 (by omega), by simp; omega, by omega, hc.ret⟩
  obtain ⟨ok, hrow⟩ := hE' B (a13 _) hcm
  refine ⟨b71 ok _, ?_⟩
  have r1 := hr1 B hE hc.cn (by omega)
  have r2 := hr2 B hE hc.cn (by omega)
  have rb := a11 m ret L E hE (by omega) a2 e2 ⟨1, 0, ⟨#[]⟩, 0, 0⟩ []
  rw [show tyT 1 = .mk ⟨1, 0, ⟨#[]⟩, 0, 0⟩ [] from rfl] at hrow hge
  simp only [List.length_append, List.length_cons, List.length_nil, Nat.zero_add] at hrow hge
  have hmin : min L.length L3.length = L.length := Nat.min_eq_left (by omega)
  have hgn : L.length ≤ L3.length := by omega
  have hgi : (L.length : Int) ≤ (L3.length : Nat) := by omega
  have h0 : (0 : Int) ≤ (L.length : Nat) := by omega
  clear hr1 hr2 hE' hcm ok hc
  obtain ⟨mx, ml⟩ := m
  obtain ⟨rx, rl⟩ := ret
  obtain ⟨ax, al⟩ := a
  obtain ⟨bx, bl⟩ := b
  obtain ⟨cx, cl⟩ := c
  refine e8 Tryz.func88 rfl rfl (Nat.le_of_ble_eq_true rfl) ?_
  repeat' (first | refine d7 ?_ | refine b9 ?_ | refine a8 ?_ | refine b8 ?_ | refine f7 rfl ?_ | refine f6 rfl ?_ | ((first | refine d6 (fun K hK => ?_) | refine d8 f8 (fun K hK => ?_) | refine b7 (cg r1 [0,1] ?_) | refine a6 (dg r1 [0,1] ?_) | refine b7 (cg r2 [0,1] ?_) | refine a6 (dg r2 [0,1] ?_) | refine b7 (cgJ rb 0 rfl ?_) | refine a6 (dgJ rb 0 rfl ?_) | refine b7 (cgJ hrow 0 rfl ?_) | refine a6 (dgJ hrow 0 rfl ?_) | fail); simp -implicitDefEqProofs [hgn, hgi, h0]) | refine hK _ ?_ | refine hK _ _ (by rfl) ?_ | fail)
  refine e7 (m7 [] rfl ?_); simp -implicitDefEqProofs [l4, g7, g9, hmin] <;> try rfl
theorem jst_22 (m ret : VT) (x : Lab) (a b : VT) (h22 : x.k = 22) (ha : p6 a) (hb : p6 b) (j : JS) (E : List VT) (he : j.er = 0) (B : Nat) (hE : OkV j.lo E) (hc : Cm m j.lo ret B (Tr.mk x [a, b]).size) : StJ m ret (.mk x [a, b]) j E (.mk ⟨x.k, x.n, ⟨#[]⟩, 0, 0⟩ (b0a m x [a, b] j).1, (b0a m x [a, b] j).2) E := by
  have hlo := b19 m x [a, b] j
  refine ⟨by show OkV (b0a m x [a, b] j).2.lo _; rw [hlo]; exact hE, ?_⟩
  have hs0 := Tr.size_at (x := x) (l := [a, b]) (i := 0) rfl
  have hs1 := Tr.size_at (x := x) (l := [a, b]) (i := 1) rfl
  have hcl := hc.len
  have hce := hc.le
  have hr := c02 m ret B j E hE hc.cn x a b ha hb (by omega) (by omega)
  have hsh := a0b x [a, b]
  rw [show a0e x [a, b] = true by unfold a0e; simp [h22, v8]] at hsh
  obtain ⟨⟨acc, ⟨L', a', e'⟩⟩, hS⟩ : ∃ s, b0a m x [a, b] j = s := ⟨_, rfl⟩
  rw [hS] at hr hlo ⊢
  dsimp only at hr hlo ⊢
  subst hlo
  clear hS hc
  obtain ⟨L, a0, e0⟩ := j
  dsimp only at he hE hr ⊢
  subst he
  have hE2 := hE.2
  obtain ⟨ax, al⟩ := a
  obtain ⟨bx, bl⟩ := b
  obtain ⟨mx, ml⟩ := m
  obtain ⟨rx, rl⟩ := ret
  refine e8 Tryz.func55 rfl rfl (Nat.le_of_ble_eq_true rfl) ?_
  refine l9 1 0 12 _ 24 6 L.length (E.map tc) rfl rfl (.inr rfl) (show (1 : Nat) < 2 by decide) (show (0 : Nat) < 2 by decide) ?_
  simp [St.mvw]
  repeat' (first | refine d7 ?_ | refine b9 ?_ | refine a8 ?_ | refine b8 ?_ | refine f7 rfl ?_ | refine f6 rfl ?_ | ((first | refine d6 (fun K hK => ?_) | refine d8 f8 (fun K hK => ?_) | refine b7 (cp hsh ?_) | refine a6 (dp hsh ?_) | refine b7 (cgJ hr 0 rfl ?_) | refine a6 (dgJ hr 0 rfl ?_) | fail); simp -implicitDefEqProofs [h22]) | refine hK _ ?_ | refine hK _ _ (by rfl) ?_ | fail)
  refine e7 (m7 [] rfl ?_); simp -implicitDefEqProofs [l4, g7, g9, h22] <;> try rfl
theorem jst_26 (m ret : VT) (x : Lab) (t : VT) (hk : x.k = 26) (ht : p6 t) (j : JS) (E : List VT) (he : j.er = 0) (B : Nat) (hE : OkV j.lo E) (hc : Cm m j.lo ret B (Tr.mk x [t]).size) : StJ m ret (.mk x [t]) j E (.mk ⟨x.k, x.n, ⟨#[]⟩, 0, 0⟩ [(ofJ m t (fun t => isT t 1 || isT t 2) j).1], (ofJ m t (fun t => isT t 1 || isT t 2) j).2) E := by
  have hlo : (ofJ m t (fun t => isT t 1 || isT t 2) j).2.lo = j.lo := w8 _ _ _ _
  refine ⟨by show OkV (ofJ m t (fun t => isT t 1 || isT t 2) j).2.lo _; rw [hlo]; exact hE, ?_⟩
  have hs0 := Tr.size_at (x := x) (l := [t]) (i := 0) rfl
  have hcl := hc.len
  have hce := hc.le
  have hrs := hc.ret.2
  have hp : ∀ x l, Row Tryz.prog 89 [vT (.mk x l)] [] (vB (isT (.mk x l) 1 || isT (.mk x l) 2)) [] := a9u
  have hr := a73 m ret B j E hE hc.cn t ht (by omega) 89 (fun t => isT t 1 || isT t 2) hp
  have hsh := a0b x [t]
  rw [show a0e x [t] = true by unfold a0e; simp [hk, v8]] at hsh
  obtain ⟨⟨⟨sx, sl⟩, ⟨L', a', e'⟩⟩, hS⟩ : ∃ s, ofJ m t (fun t => isT t 1 || isT t 2) j = s := ⟨_, rfl⟩
  rw [hS] at hr hlo ⊢
  dsimp only at hr hlo ⊢
  subst hlo
  clear hS hc
  obtain ⟨L, a0, e0⟩ := j
  dsimp only at he hE hr ⊢
  subst he
  have hE2 := hE.2
  obtain ⟨tx, tl⟩ := t
  obtain ⟨mx, ml⟩ := m
  obtain ⟨rx, rl⟩ := ret
  refine e8 Tryz.func55 rfl rfl (Nat.le_of_ble_eq_true rfl) ?_
  refine l9 1 0 12 _ 24 6 L.length (E.map tc) rfl rfl (.inr rfl) (show (1 : Nat) < 2 by decide) (show (0 : Nat) < 2 by decide) ?_
  simp [St.mvw]
  repeat' (first | refine d7 ?_ | refine b9 ?_ | refine a8 ?_ | refine b8 ?_ | refine f7 rfl ?_ | refine f6 rfl ?_ | ((first | refine d6 (fun K hK => ?_) | refine d8 f8 (fun K hK => ?_) | refine b7 (cp hsh ?_) | refine a6 (dp hsh ?_) | refine b7 (cgJ hr 0 rfl ?_) | refine a6 (dgJ hr 0 rfl ?_) | fail); simp -implicitDefEqProofs [hk]) | refine hK _ ?_ | refine hK _ _ (by rfl) ?_ | fail)
  refine e7 (m7 [] rfl ?_); simp -implicitDefEqProofs [l4, g7, g9, hk] <;> try rfl
theorem jst_27 (m ret : VT) (x : Lab) (t : VT) (hk : x.k = 27) (ht : p6 t) (j : JS) (E : List VT) (he : j.er = 0) (B : Nat) (hE : OkV j.lo E) (hc : Cm m j.lo ret B (Tr.mk x [t]).size) : StJ m ret (.mk x [t]) j E (.mk ⟨x.k, x.n, ⟨#[]⟩, 0, 0⟩ [(ofJ m t (fun t => same t ret) j).1], (ofJ m t (fun t => same t ret) j).2) E := by
  have hlo : (ofJ m t (fun t => same t ret) j).2.lo = j.lo := w8 _ _ _ _
  refine ⟨by show OkV (ofJ m t (fun t => same t ret) j).2.lo _; rw [hlo]; exact hE, ?_⟩
  have hs0 := Tr.size_at (x := x) (l := [t]) (i := 0) rfl
  have hcl := hc.len
  have hce := hc.le
  have hrs := hc.ret.2
  have hr := c00 m ret (by omega) B j E hE hc.cn t ht (by omega)
  have hsh := a0b x [t]
  rw [show a0e x [t] = true by unfold a0e; simp [hk, v8]] at hsh
  obtain ⟨⟨⟨sx, sl⟩, ⟨L', a', e'⟩⟩, hS⟩ : ∃ s, ofJ m t (fun t => same t ret) j = s := ⟨_, rfl⟩
  rw [hS] at hr hlo ⊢
  dsimp only at hr hlo ⊢
  subst hlo
  clear hS hc
  obtain ⟨L, a0, e0⟩ := j
  dsimp only at he hE hr ⊢
  subst he
  have hE2 := hE.2
  obtain ⟨tx, tl⟩ := t
  obtain ⟨mx, ml⟩ := m
  obtain ⟨rx, rl⟩ := ret
  refine e8 Tryz.func55 rfl rfl (Nat.le_of_ble_eq_true rfl) ?_
  refine l9 1 0 12 _ 24 6 L.length (E.map tc) rfl rfl (.inr rfl) (show (1 : Nat) < 2 by decide) (show (0 : Nat) < 2 by decide) ?_
  simp [St.mvw]
  repeat' (first | refine d7 ?_ | refine b9 ?_ | refine a8 ?_ | refine b8 ?_ | refine f7 rfl ?_ | refine f6 rfl ?_ | ((first | refine d6 (fun K hK => ?_) | refine d8 f8 (fun K hK => ?_) | refine b7 (cp hsh ?_) | refine a6 (dp hsh ?_) | refine b7 (cgJ hr 0 rfl ?_) | refine a6 (dgJ hr 0 rfl ?_) | fail); simp -implicitDefEqProofs [hk]) | refine hK _ ?_ | refine hK _ _ (by rfl) ?_ | fail)
  refine e7 (m7 [] rfl ?_); simp -implicitDefEqProofs [l4, g7, g9, hk] <;> try rfl
theorem jst_28 (m ret : VT) (x : Lab) (t : VT) (hk : x.k = 28) (ht : p6 t) (j : JS) (E : List VT) (he : j.er = 0) (B : Nat) (hE : OkV j.lo E) (hc : Cm m j.lo ret B (Tr.mk x [t]).size) : StJ m ret (.mk x [t]) j E (.mk ⟨x.k, x.n, ⟨#[]⟩, 0, 0⟩ [(doJ m t j).1], (doJ m t j).2) E := by
  have hlo : (doJ m t j).2.lo = j.lo := b62 _ _ _
  refine ⟨by show OkV (doJ m t j).2.lo _; rw [hlo]; exact hE, ?_⟩
  have hs0 := Tr.size_at (x := x) (l := [t]) (i := 0) rfl
  have hcl := hc.len
  have hce := hc.le
  have hrs := hc.ret.2
  have hr := b7o m ret B j E hE hc.cn t ht (by omega)
  have hsh := a0b x [t]
  rw [show a0e x [t] = true by unfold a0e; simp [hk, v8]] at hsh
  obtain ⟨⟨⟨sx, sl⟩, ⟨L', a', e'⟩⟩, hS⟩ : ∃ s, doJ m t j = s := ⟨_, rfl⟩
  rw [hS] at hr hlo ⊢
  dsimp only at hr hlo ⊢
  subst hlo
  clear hS hc
  obtain ⟨L, a0, e0⟩ := j
  dsimp only at he hE hr ⊢
  subst he
  have hE2 := hE.2
  obtain ⟨tx, tl⟩ := t
  obtain ⟨mx, ml⟩ := m
  obtain ⟨rx, rl⟩ := ret
  refine e8 Tryz.func55 rfl rfl (Nat.le_of_ble_eq_true rfl) ?_
  refine l9 1 0 12 _ 24 6 L.length (E.map tc) rfl rfl (.inr rfl) (show (1 : Nat) < 2 by decide) (show (0 : Nat) < 2 by decide) ?_
  simp [St.mvw]
  repeat' (first | refine d7 ?_ | refine b9 ?_ | refine a8 ?_ | refine b8 ?_ | refine f7 rfl ?_ | refine f6 rfl ?_ | ((first | refine d6 (fun K hK => ?_) | refine d8 f8 (fun K hK => ?_) | refine b7 (cp hsh ?_) | refine a6 (dp hsh ?_) | refine b7 (cgJ hr 0 rfl ?_) | refine a6 (dgJ hr 0 rfl ?_) | fail); simp -implicitDefEqProofs [hk]) | refine hK _ ?_ | refine hK _ _ (by rfl) ?_ | fail)
  refine e7 (m7 [] rfl ?_); simp -implicitDefEqProofs [l4, g7, g9, hk] <;> try rfl
theorem jst_25 (m ret : VT) (x : Lab) (a b c : VT) (hk : x.k = 25) (hcb : c.lab.k = 29) (hsc : SOk m ret c) (ha : p6 a) (hb : p6 b) (j : JS) (E : List VT) (he : j.er = 0) : ∃ E', ∀ B : Nat, OkV j.lo E → Cm m j.lo ret B (Tr.mk x [a, b, c]).size → StJ m ret (.mk x [a, b, c]) j E (.mk ⟨x.k, x.n, ⟨#[]⟩, 0, 0⟩ (b1q m [a, b, c] (j7 m ret c) j).1, (b1q m [a, b, c] (j7 m ret c) j).2) E' := by
  obtain ⟨E', hq⟩ := b4s m ret x a b c hsc ha hb j E
  refine ⟨E', fun B hE hc => ?_⟩
  obtain ⟨ok, hr⟩ := hq B hE (hc.less (by rw [Tr.size_mk]; simp only [List.map_cons, List.map_nil, List.sum_cons, List.sum_nil]; omega))
  refine ⟨ok, ?_⟩
  have hsh := a0b x [a, b, c]
  rw [show a0e x [a, b, c] = true by unfold a0e; simp [hk, v8, b4l, hcb]] at hsh
  obtain ⟨⟨acc, ⟨L', a', e'⟩⟩, hS⟩ : ∃ s, b1q m [a, b, c] (j7 m ret c) j = s := ⟨_, rfl⟩
  rw [hS] at hr ⊢
  dsimp only at hr ⊢
  clear hS ok hq hsc hc
  obtain ⟨L, a0, e0⟩ := j
  dsimp only at he hE hr ⊢
  subst he
  obtain ⟨ax, al⟩ := a
  obtain ⟨bx, bl⟩ := b
  obtain ⟨cx, cl⟩ := c
  obtain ⟨mx, ml⟩ := m
  obtain ⟨rx, rl⟩ := ret
  refine e8 Tryz.func55 rfl rfl (Nat.le_of_ble_eq_true rfl) ?_
  repeat' (first | refine d7 ?_ | refine b9 ?_ | refine a8 ?_ | refine b8 ?_ | refine f7 rfl ?_ | refine f6 rfl ?_ | ((first | refine d6 (fun K hK => ?_) | refine d8 f8 (fun K hK => ?_) | refine b7 (cp hsh ?_) | refine a6 (dp hsh ?_) | refine b7 (cgJ hr 0 rfl ?_) | refine a6 (dgJ hr 0 rfl ?_) | fail); simp -implicitDefEqProofs [hk]) | refine hK _ ?_ | refine hK _ _ (by rfl) ?_ | fail)
  refine e7 (m7 [] rfl ?_); simp -implicitDefEqProofs [l4, g7, g9, hk] <;> try rfl
theorem c5l {m ret : VT} {l : List VT} (hin : ∀ y ∈ l, p6 y) {F : VT → JS → List VT → List VT} (hF : ∀ y ∈ l, ∀ (j : JS) (E : List VT) (B : Nat), OkV j.lo E → Cm m j.lo ret B y.size → OkV (j7 m ret y j).2.lo (F y j E)) {j : JS} {E : List VT} {B : Nat} (hE : OkV j.lo E) (hc : Cm m j.lo ret B (l.map Tr.size).sum) : ∀ k, k ≤ l.length → OkV (t8 ((l.take k).map (j7 m ret)) j).2.lo (eqJ m ret F (l.take k) j E) ∧ Cm m (t8 ((l.take k).map (j7 m ret)) j).2.lo ret (B + ((l.take k).map Tr.size).sum) ((l.drop k).map Tr.size).sum := by
  intro k
  induction k with
  | zero =>
    intro _
    exact ⟨hE, by show Cm m j.lo ret _ _; simpa using hc⟩
  | succ k ihk =>
    intro hk
    obtain ⟨i1, i2⟩ := ihk (by omega)
    have hy : l[k]? = some (l[k]'(by omega)) := List.getElem?_eq_getElem _
    have ht : l.take (k + 1) = l.take k ++ [l[k]'(by omega)] := by rw [List.take_add_one, hy]; rfl
    have hsm : ((l.take (k + 1)).map Tr.size).sum + ((l.drop (k + 1)).map Tr.size).sum = (l.map Tr.size).sum := by
      rw [← List.sum_append, ← List.map_append, List.take_append_drop]
    refine ⟨?_, c2z (fun y hy => hin y (List.mem_of_mem_take hy)) (by rw [hsm]; exact hc)⟩
    rw [ht, List.map_append, List.map_cons, List.map_nil, a1s, a2z]
    have hd : l.drop k = l[k]'(by omega) :: l.drop (k + 1) := List.drop_eq_getElem_cons (by omega)
    rw [hd, List.map_cons, List.sum_cons] at i2
    exact hF _ (List.getElem_mem _) _ _ _ i1 (i2.less (by omega))
theorem jst_23 (m ret : VT) (x : Lab) (t : VT) (l : List VT) (hk : x.k = 23 ∨ x.k = 24) (hs : a0e x (t :: l) = true) (h : ∀ y ∈ l, SOk m ret y) (ht : p6 t) (hin : ∀ y ∈ l, p6 y) (j : JS) (E : List VT) (he : j.er = 0) : ∃ E', ∀ B : Nat, OkV j.lo E → Cm m j.lo ret B (Tr.mk x (t :: l)).size → StJ m ret (.mk x (t :: l)) j E (.mk ⟨x.k, x.n, ⟨#[]⟩, 0, 0⟩ ((ofJ m t (fun t => isT t 2) j).1 :: (t8 (l.map (j7 m ret)) (ofJ m t (fun t => isT t 2) j).2).1), (t8 (l.map (j7 m ret)) (ofJ m t (fun t => isT t 2) j).2).2) E' := by
  obtain ⟨F, hF⟩ := b8o h
  refine ⟨eqJ m ret F l (ofJ m t (fun t => isT t 2) j).2 E, fun B hE hc => ?_⟩
  have hcl := hc.len
  have hce := hc.le
  have hsz : (Tr.mk x (t :: l)).size = 1 + (t.size + (l.map Tr.size).sum) := by rw [Tr.size_mk]; rfl
  have hlen : l.length ≤ (l.map Tr.size).sum := by
    have := Tr.len_size (x := x) (l := l)
    rw [Tr.size_mk] at this
    omega
  have hlo := w8 m t (fun t => isT t 2) j
  have hp : ∀ x l, Row Tryz.prog 87 [vT (.mk x l)] [] (vB (isT (.mk x l) 2)) [] := a48
  have hr := a73 m ret B j E hE hc.cn t ht (by omega) 87 (fun t => isT t 2) hp
  have hsh := a0b x (t :: l)
  rw [hs] at hsh
  obtain ⟨⟨⟨sx, sl⟩, ⟨L', a', e'⟩⟩, hS⟩ : ∃ s, ofJ m t (fun t => isT t 2) j = s := ⟨_, rfl⟩
  rw [hS] at hr hlo ⊢
  dsimp only at hr hlo ⊢
  subst hlo
  have hok := c5l hin (fun y hy j E B h1 h2 => (hF y hy j E B h1 h2).1) (j := ⟨j.lo, a', e'⟩) (E := E) (B := B) hE (hc.less (by omega))
  have hfin := hok l.length (Nat.le_refl _)
  rw [List.take_length] at hfin
  refine ⟨hfin.1, ?_⟩
  clear hS hfin hp
  obtain ⟨L, a, e⟩ := j
  dsimp only at he hE hr hok hcl ⊢
  subst he
  have hE2 := hE.2
  have s0 : t8 ((l.take 0).map (j7 m ret)) ⟨L, a', e'⟩ = ([], ⟨L, a', e'⟩) := rfl
  have q0 : eqJ m ret F (l.take 0) ⟨L, a', e'⟩ E = E := rfl
  have h1l : (1 : Int) ≤ (l.length : Nat) + 1 := by omega
  obtain ⟨tx, tl⟩ := t
  obtain ⟨mx, ml⟩ := m
  obtain ⟨rx, rl⟩ := ret
  rcases hk with hk | hk
  all_goals (
    refine e8 Tryz.func55 rfl rfl (Nat.le_of_ble_eq_true rfl) ?_
    refine l9 1 0 12 _ 24 6 L.length (E.map tc) rfl rfl (.inr rfl) (show (1 : Nat) < 2 by decide) (show (0 : Nat) < 2 by decide) ?_
    simp [St.mvw]
    repeat (first | refine d7 ?_ | refine b9 ?_ | refine a8 ?_ | refine b8 ?_ | refine f7 rfl ?_ | refine f6 rfl ?_ | ((first | refine d6 (fun K hK => ?_) | refine d8 f8 (fun K hK => ?_) | fail); simp -implicitDefEqProofs; first | refine hK _ ?_ | refine hK _ _ (by rfl) ?_ | fail) | fail)
    refine d6 (fun K hK => ?_); simp -implicitDefEqProofs
    refine b7 (cp hsh ?_)
    simp -implicitDefEqProofs
    refine hK _ ?_
    repeat (first | refine d7 ?_ | refine b9 ?_ | refine a8 ?_ | refine b8 ?_ | refine f7 rfl ?_ | refine f6 rfl ?_ | ((first | refine d6 (fun K hK => ?_) | refine d8 f8 (fun K hK => ?_) | fail); simp -implicitDefEqProofs [hk]; first | refine hK _ ?_ | refine hK _ _ (by rfl) ?_ | fail) | fail)
    refine a3k 25 3 _ 24 6 rfl rfl (by simp) ?_
    simp [St.nilc]
    repeat' (first | refine d7 ?_ | refine b9 ?_ | refine a8 ?_ | refine b8 ?_ | refine f7 rfl ?_ | refine f6 rfl ?_ | ((first | refine d6 (fun K hK => ?_) | refine d8 f8 (fun K hK => ?_) | refine b7 (cgJ hr 0 rfl ?_) | refine a6 (dgJ hr 0 rfl ?_) | fail); simp -implicitDefEqProofs [h1l]) | refine hK _ ?_ | refine hK _ _ (by rfl) ?_ | fail)
    refine v7 (ι := Nat) (fun k => a0w [(0, .v (.c (.ptr 0 0))), (4, .v (.c (.ptr 3 0))), (5, .v (.c (.ptr 4 0))), (99, vLs l), (100, vI (l.length : Nat)), (101, vI (k : Nat))] [some (bxJ 2 (.mk mx ml) (.mk rx rl) (t8 ((l.take k).map (j7 (.mk mx ml) (.mk rx rl))) ⟨L, a', e'⟩).2.lo.length (t8 ((l.take k).map (j7 (.mk mx ml) (.mk rx rl))) ⟨L, a', e'⟩).2.at' (t8 ((l.take k).map (j7 (.mk mx ml) (.mk rx rl))) ⟨L, a', e'⟩).2.er), none, some (arJ (eqJ (.mk mx ml) (.mk rx rl) F (l.take k) ⟨L, a', e'⟩ E)), some zTb, some (.box [.pv (I x.k), .pv (I x.n), .pv (Sx ⟨#[]⟩), .row 5 6 (((Tr.mk sx sl) :: (t8 ((l.take k).map (j7 (.mk mx ml) (.mk rx rl))) ⟨L, a', e'⟩).1).map tc), .pv (I 0), .pv (I 0)]), some (.row 24 6)]) (fun k => k ≤ l.length) (fun k => l.length - k) 0 (Nat.zero_le _) (by rw [s0, q0]; first | (refine a2f [4, 25, 112] rfl ?_ ?_ (by decide) rfl (by simp) <;> (simp -implicitDefEqProofs [hk]; done)) | (refine a2f [4, 25, 114] rfl ?_ ?_ (by decide) rfl (by simp) <;> (simp -implicitDefEqProofs [hk]; done))) (fun Z hI k hkk => ?_)
    by_cases hkl : k < l.length; rotate_left
    · have : k = l.length := by omega
      subst this
      rw [List.take_length]
      obtain ⟨⟨acc, ⟨L2, a2, e2⟩⟩, hS⟩ : ∃ s, t8 (l.map (j7 (.mk mx ml) (.mk rx rl))) ⟨L, a', e'⟩ = s := ⟨_, rfl⟩
      rw [hS]
      dsimp only
      repeat (first | refine d7 ?_ | refine b9 ?_ | refine a8 ?_ | refine b8 ?_ | refine f7 rfl ?_ | refine f6 rfl ?_ | ((first | refine d6 (fun K hK => ?_) | refine d8 f8 (fun K hK => ?_) | fail); simp -implicitDefEqProofs; first | refine hK _ ?_ | refine hK _ _ (by rfl) ?_ | fail) | fail)
      refine e7 (m7 [] rfl ?_); simp -implicitDefEqProofs [l4, g7, g9] <;> try rfl
    obtain ⟨⟨yx, yl⟩, hy⟩ : ∃ y, l[k]? = some y := ⟨_, List.getElem?_eq_getElem hkl⟩
    have hy' := (List.getElem?_eq_some_iff.1 hy).2
    have w2 : IntKind.i64.wrap ((k : Nat) + 1 : Int) = (k : Nat) + 1 := v6 _ (by omega) (by omega)
    obtain ⟨i1, i2⟩ := hok k hkk
    have hd : l.drop k = .mk yx yl :: l.drop (k + 1) := by rw [List.drop_eq_getElem_cons hkl, hy']
    rw [hd, List.map_cons, List.sum_cons] at i2
    have hrw := (hF _ (List.mem_of_getElem? hy) _ _ _ i1 (i2.less (by omega))).2
    have ht : l.take (k + 1) = l.take k ++ [.mk yx yl] := by rw [List.take_add_one, hy]; rfl
    have hs1 : t8 ((l.take (k + 1)).map (j7 (.mk mx ml) (.mk rx rl))) ⟨L, a', e'⟩ = ((t8 ((l.take k).map (j7 (.mk mx ml) (.mk rx rl))) ⟨L, a', e'⟩).1 ++ [(j7 (.mk mx ml) (.mk rx rl) (.mk yx yl) (t8 ((l.take k).map (j7 (.mk mx ml) (.mk rx rl))) ⟨L, a', e'⟩).2).1], (j7 (.mk mx ml) (.mk rx rl) (.mk yx yl) (t8 ((l.take k).map (j7 (.mk mx ml) (.mk rx rl))) ⟨L, a', e'⟩).2).2) := by
      rw [ht, List.map_append, List.map_cons, List.map_nil, a1s]
    have hq1 := a2z (.mk mx ml) (.mk rx rl) F (.mk yx yl) (l.take k) ⟨L, a', e'⟩ E
    rw [← ht] at hq1
    have hal := a8i ((l.take k).map (j7 (.mk mx ml) (.mk rx rl))) ⟨L, a', e'⟩
    rw [List.length_map, List.length_take, Nat.min_eq_left hkk] at hal
    obtain ⟨⟨acc, ⟨L1, a1, e1⟩⟩, hS⟩ : ∃ s, t8 ((l.take k).map (j7 (.mk mx ml) (.mk rx rl))) ⟨L, a', e'⟩ = s := ⟨_, rfl⟩
    obtain ⟨E1, hE1⟩ : ∃ s, eqJ (.mk mx ml) (.mk rx rl) F (l.take k) ⟨L, a', e'⟩ E = s := ⟨_, rfl⟩
    rw [hS] at hrw hs1 hq1 hal ⊢
    rw [hE1] at hrw hq1 ⊢
    dsimp only at hrw hs1 hq1 hal ⊢
    obtain ⟨E2, hE2'⟩ : ∃ s, F (.mk yx yl) ⟨L1, a1, e1⟩ E1 = s := ⟨_, rfl⟩
    rw [hE2'] at hrw hq1
    obtain ⟨⟨⟨ux, ul⟩, ⟨L2, a2, e2⟩⟩, hT⟩ : ∃ s, j7 (.mk mx ml) (.mk rx rl) (.mk yx yl) ⟨L1, a1, e1⟩ = s := ⟨_, rfl⟩
    rw [hT] at hrw hs1
    dsimp only at hrw hs1
    have b1 : (k + 1 + 1) * 72 ≤ 140737488355328 := by omega
    have b2 : k + 1 + 1 ≤ 140737488355328 := by omega
    clear hok hF h hS hE1 hE2' hT i1 i2 s0 q0 hr
    repeat' (first | refine d7 ?_ | refine b9 ?_ | refine a8 ?_ | refine b8 ?_ | refine f7 rfl ?_ | refine f6 rfl ?_ | ((first | refine d6 (fun K hK => ?_) | refine d8 f8 (fun K hK => ?_) | refine b7 (cgJ hrw 0 rfl ?_) | refine a6 (dgJ hrw 0 rfl ?_) | fail); simp -implicitDefEqProofs [hkl, hy, hy', w2, hal, b1, b2]) | refine hK _ ?_ | refine hK _ _ (by rfl) ?_ | fail)
    refine ⟨k + 1, by omega, (by dsimp only; omega), ?_⟩
    rw [hI, hs1, hq1]; exact a2f [3, 4, 59] rfl (by simp -implicitDefEqProofs) (by simp -implicitDefEqProofs) (by first | decide | (simp; done)) rfl (by simp))
theorem c5v {α : Type} {l : List α} (h : l.length = 2) : ∃ a b, l = [a, b] := by
  match l, h with
  | [a, b], _ => exact ⟨a, b, rfl⟩
theorem c1p {x : Lab} {l : List VT} (h : a0e x l = true) (c29 : ¬ x.k = 29) : (l.length : Int) = (v8 x.k).1 ∧ (l.drop ((v8 x.k).1 - (v8 x.k).2).toNat).all b4l = true := by
  unfold a0e at h
  rw [if_neg c29, Bool.and_eq_true] at h
  exact ⟨of_decide_eq_true h.1, h.2⟩
theorem c5o (m ret : VT) (t : VT) : p6 t → SOk m ret t := by
  induction t using Tr.ind with
  | h x l ih =>
  intro ht j E
  have hkin := ((Tr.all_mk _ x l).1 ht).2
  have key : ∀ (r : VT × JS) (E' : List VT), j7 m ret (.mk x l) j = r → (∀ B : Nat, OkV j.lo E → Cm m j.lo ret B (Tr.mk x l).size → StJ m ret (.mk x l) j E r E') → ∃ E', ∀ B : Nat, OkV j.lo E → Cm m j.lo ret B (Tr.mk x l).size → OkV (j7 m ret (.mk x l) j).2.lo E' ∧ Row Tryz.prog 55 [.v (.c (.ptr 0 0)), vT (.mk x l)] [bxJ 1 m ret j.lo.length j.at' j.er, arJ E] (vT (j7 m ret (.mk x l) j).1) [some (bxJ 2 m ret (j7 m ret (.mk x l) j).2.lo.length (j7 m ret (.mk x l) j).2.at' (j7 m ret (.mk x l) j).2.er), none, some (arJ E')] := fun r E' hr h => ⟨E', fun B h1 h2 => by rw [hr]; exact h B h1 h2⟩
  have hb : j7 m ret (.mk x l) j = a5t m ret x l (l.map (j7 m ret)) j := a1t m ret x l j
  unfold a5t at hb
  by_cases he : j.er = 0; rotate_left
  · rw [if_pos he] at hb
    exact key _ E hb (fun B h1 h2 => c4v m ret x l j E h1 he)
  rw [if_neg (by simpa using he)] at hb
  by_cases hs : a0e x l = false
  · rw [if_pos hs] at hb
    exact key _ E hb (fun B h1 h2 => c4w m ret x l j E h1 he hs)
  rw [if_neg hs] at hb
  have hs : a0e x l = true := by simpa using hs
  unfold a1g at hb
  by_cases c29 : x.k = 29
  · rw [if_pos c29] at hb
    obtain ⟨E', h⟩ := jst_29 m ret x l c29 (fun y hy => ih y hy (hkin y hy)) hkin j E he
    exact key _ E' hb h
  rw [if_neg c29] at hb
  obtain ⟨n1, n2⟩ := c1p hs c29
  by_cases c20 : x.k = 20
  · rw [if_pos c20] at hb
    obtain ⟨t, rfl⟩ := s9 (l := l) (by rw [c20] at n1; simp [v8] at n1; omega)
    exact key _ _ hb (fun B h1 h2 => jst_20 m ret x t c20 (hkin t (by simp)) j E he B h1 h2)
  rw [if_neg c20] at hb
  by_cases c21 : x.k = 21
  · rw [if_pos c21] at hb
    obtain ⟨t, rfl⟩ := s9 (l := l) (by rw [c21] at n1; simp [v8] at n1; omega)
    exact key _ _ hb (fun B h1 h2 => jst_21 m ret x t c21 (hkin t (by simp)) j E he B h1 h2)
  rw [if_neg c21] at hb
  by_cases c22 : x.k = 22
  · rw [if_pos c22] at hb
    obtain ⟨a, b, rfl⟩ := c5v (l := l) (by rw [c22] at n1; simp [v8] at n1; omega)
    exact key _ _ hb (fun B h1 h2 => jst_22 m ret x a b c22 (hkin a (by simp)) (hkin b (by simp)) j E he B h1 h2)
  rw [if_neg c22] at hb
  by_cases c23 : x.k = 23 ∨ x.k = 24
  · rw [if_pos c23] at hb
    cases l with
    | nil =>
      rcases c23 with c | c
      · rw [c] at n1; simp [v8] at n1
      · rw [c] at n1; simp [v8] at n1
    | cons t r =>
      obtain ⟨E', h⟩ := jst_23 m ret x t r c23 hs (fun y hy => ih y (by simp [hy]) (hkin y (by simp [hy]))) (hkin t (by simp)) (fun y hy => hkin y (by simp [hy])) j E he
      exact key _ E' hb h
  rw [if_neg c23] at hb
  by_cases c25 : x.k = 25
  · rw [if_pos c25] at hb
    obtain ⟨a, b, c, rfl⟩ := t7 (l := l) (by rw [c25] at n1; simp [v8] at n1; omega)
    have hc : c.lab.k = 29 := by
      rw [c25] at n2
      simp [v8, b4l] at n2
      exact n2
    obtain ⟨E', h⟩ := jst_25 m ret x a b c c25 hc (ih c (by simp) (hkin c (by simp))) (hkin a (by simp)) (hkin b (by simp)) j E he
    exact key _ E' hb h
  rw [if_neg c25] at hb
  by_cases c26 : x.k = 26
  · rw [if_pos c26] at hb
    obtain ⟨t, rfl⟩ := s9 (l := l) (by rw [c26] at n1; simp [v8] at n1; omega)
    exact key _ _ hb (fun B h1 h2 => jst_26 m ret x t c26 (hkin t (by simp)) j E he B h1 h2)
  rw [if_neg c26] at hb
  by_cases c27 : x.k = 27
  · rw [if_pos c27] at hb
    obtain ⟨t, rfl⟩ := s9 (l := l) (by rw [c27] at n1; simp [v8] at n1; omega)
    exact key _ _ hb (fun B h1 h2 => jst_27 m ret x t c27 (hkin t (by simp)) j E he B h1 h2)
  rw [if_neg c27] at hb
  by_cases c28 : x.k = 28
  · obtain ⟨t, rfl⟩ := s9 (l := l) (by rw [c28] at n1; simp [v8] at n1; omega)
    exact key _ _ hb (fun B h1 h2 => jst_28 m ret x t c28 (hkin t (by simp)) j E he B h1 h2)
  · have c23a : ¬ x.k = 23 := fun h => c23 (.inl h)
    have c24a : ¬ x.k = 24 := fun h => c23 (.inr h)
    simp [v8, c20, c21, c22, c23a, c24a, c25, c26, c27, c28] at n1
def StF (m ret : VT) (t : VT) (j : JS) (E : List VT) (r : VT × JS) (ret' : VT) (E' : List VT) : Prop := OkV r.2.lo E' ∧ Row Tryz.prog 37 [.v (.c (.ptr 0 0)), vT t] [bxJ 1 m ret j.lo.length j.at' j.er, arJ E] (vT r.1) [some (bxJ 2 m ret' r.2.lo.length r.2.at' r.2.er), none, some (arJ E')]
theorem jfn_no (m ret : VT) (x : Lab) (l : List VT) (hls : (Tr.mk x l).size ≤ 400000) (j : JS) (E : List VT) (hE : OkV j.lo E) (hs : fnB x l = false) : StF m ret (.mk x l) j E (z0T, p7 x 12 j) ret E := by
  refine ⟨by rw [u5]; exact hE, ?_⟩
  rw [a0h]
  obtain ⟨L, a, e⟩ := j
  dsimp only at hE ⊢
  have hf := n4 m ret L.length E a e x l 12
  generalize (if e = 0 then x.f else a) = a' at hf ⊢
  generalize (if e = 0 then (12 : Int) else e) = e' at hf ⊢
  obtain ⟨mx, ml⟩ := m
  obtain ⟨rx, rl⟩ := ret
  unfold fnB at hs
  by_cases hn : x.n = 0 ∨ x.n = 1; rotate_left
  · have n0 : ¬ x.n = 0 := fun h => hn (.inl h)
    have n1 : ¬ x.n = 1 := fun h => hn (.inr h)
    clear hs
    refine e8 Tryz.func37 rfl rfl (Nat.le_of_ble_eq_true rfl) ?_
    refine l9 1 0 12 _ 24 6 L.length (E.map tc) rfl rfl (.inr rfl) (show (1 : Nat) < 2 by decide) (show (0 : Nat) < 2 by decide) ?_
    simp [St.mvw]
    repeat' (first | refine d7 ?_ | refine b9 ?_ | refine a8 ?_ | refine b8 ?_ | refine f7 rfl ?_ | refine f6 rfl ?_ | ((first | refine d6 (fun K hK => ?_) | refine d8 f8 (fun K hK => ?_) | refine b7 (cgJ hf 0 rfl ?_) | refine a6 (dgJ hf 0 rfl ?_) | fail); simp -implicitDefEqProofs [n0, n1]) | refine hK _ ?_ | refine hK _ _ (by rfl) ?_ | fail)
    refine e7 (m7 [] rfl ?_); simp -implicitDefEqProofs [l4, g7, g9] <;> try rfl
  by_cases h3 : l.length = 3; rotate_left
  · have h3' : ¬ (l.length : Int) = 3 := by omega
    clear hs
    rcases hn with hn | hn
    · refine e8 Tryz.func37 rfl rfl (Nat.le_of_ble_eq_true rfl) ?_
      refine l9 1 0 12 _ 24 6 L.length (E.map tc) rfl rfl (.inr rfl) (show (1 : Nat) < 2 by decide) (show (0 : Nat) < 2 by decide) ?_
      simp [St.mvw]
      repeat' (first | refine d7 ?_ | refine b9 ?_ | refine a8 ?_ | refine b8 ?_ | refine f7 rfl ?_ | refine f6 rfl ?_ | ((first | refine d6 (fun K hK => ?_) | refine d8 f8 (fun K hK => ?_) | refine b7 (cgJ hf 0 rfl ?_) | refine a6 (dgJ hf 0 rfl ?_) | fail); simp -implicitDefEqProofs [hn, h3, h3']) | refine hK _ ?_ | refine hK _ _ (by rfl) ?_ | fail)
      refine e7 (m7 [] rfl ?_); simp -implicitDefEqProofs [l4, g7, g9] <;> try rfl
    · refine e8 Tryz.func37 rfl rfl (Nat.le_of_ble_eq_true rfl) ?_
      refine l9 1 0 12 _ 24 6 L.length (E.map tc) rfl rfl (.inr rfl) (show (1 : Nat) < 2 by decide) (show (0 : Nat) < 2 by decide) ?_
      simp [St.mvw]
      repeat' (first | refine d7 ?_ | refine b9 ?_ | refine a8 ?_ | refine b8 ?_ | refine f7 rfl ?_ | refine f6 rfl ?_ | ((first | refine d6 (fun K hK => ?_) | refine d8 f8 (fun K hK => ?_) | refine b7 (cgJ hf 0 rfl ?_) | refine a6 (dgJ hf 0 rfl ?_) | fail); simp -implicitDefEqProofs [hn, h3, h3']) | refine hK _ ?_ | refine hK _ _ (by rfl) ?_ | fail)
      refine e7 (m7 [] rfl ?_); simp -implicitDefEqProofs [l4, g7, g9] <;> try rfl
  obtain ⟨⟨px, pl⟩, ⟨qx, ql⟩, ⟨bx, bl⟩, rfl⟩ := t7 h3
  simp only [List.getD_cons_zero, List.getD_cons_succ, Tr.lab, Tr.kids] at hs
  by_cases h35 : px.k = 35; rotate_left
  · clear hs
    rcases hn with hn | hn
    · refine e8 Tryz.func37 rfl rfl (Nat.le_of_ble_eq_true rfl) ?_
      refine l9 1 0 12 _ 24 6 L.length (E.map tc) rfl rfl (.inr rfl) (show (1 : Nat) < 2 by decide) (show (0 : Nat) < 2 by decide) ?_
      simp [St.mvw]
      repeat' (first | refine d7 ?_ | refine b9 ?_ | refine a8 ?_ | refine b8 ?_ | refine f7 rfl ?_ | refine f6 rfl ?_ | ((first | refine d6 (fun K hK => ?_) | refine d8 f8 (fun K hK => ?_) | refine b7 (cgJ hf 0 rfl ?_) | refine a6 (dgJ hf 0 rfl ?_) | fail); simp -implicitDefEqProofs [hn, h35]) | refine hK _ ?_ | refine hK _ _ (by rfl) ?_ | fail)
      refine e7 (m7 [] rfl ?_); simp -implicitDefEqProofs [l4, g7, g9] <;> try rfl
    · refine e8 Tryz.func37 rfl rfl (Nat.le_of_ble_eq_true rfl) ?_
      refine l9 1 0 12 _ 24 6 L.length (E.map tc) rfl rfl (.inr rfl) (show (1 : Nat) < 2 by decide) (show (0 : Nat) < 2 by decide) ?_
      simp [St.mvw]
      repeat' (first | refine d7 ?_ | refine b9 ?_ | refine a8 ?_ | refine b8 ?_ | refine f7 rfl ?_ | refine f6 rfl ?_ | ((first | refine d6 (fun K hK => ?_) | refine d8 f8 (fun K hK => ?_) | refine b7 (cgJ hf 0 rfl ?_) | refine a6 (dgJ hf 0 rfl ?_) | fail); simp -implicitDefEqProofs [hn, h35]) | refine hK _ ?_ | refine hK _ _ (by rfl) ?_ | fail)
      refine e7 (m7 [] rfl ?_); simp -implicitDefEqProofs [l4, g7, g9] <;> try rfl
  have hpl : pl.length ≤ 1000000 := by
    have e0 := Tr.size_at (x := x) (l := [Tr.mk px pl, .mk qx ql, .mk bx bl]) (i := 0) rfl
    have e1 := Tr.len_size (x := px) (l := pl)
    omega
  have hpa := a3s pl hpl
  have hpp : pl.all r9 = c1f pl := rfl
  rw [hpp] at hpa
  cases hP : c1f pl with
  | false =>
    rw [hP] at hpa
    clear hs
    rcases hn with hn | hn
    · refine e8 Tryz.func37 rfl rfl (Nat.le_of_ble_eq_true rfl) ?_
      refine l9 1 0 12 _ 24 6 L.length (E.map tc) rfl rfl (.inr rfl) (show (1 : Nat) < 2 by decide) (show (0 : Nat) < 2 by decide) ?_
      simp [St.mvw]
      repeat' (first | refine d7 ?_ | refine b9 ?_ | refine a8 ?_ | refine b8 ?_ | refine f7 rfl ?_ | refine f6 rfl ?_ | ((first | refine d6 (fun K hK => ?_) | refine d8 f8 (fun K hK => ?_) | refine b7 (cp hpa ?_) | refine a6 (dp hpa ?_) | refine b7 (cgJ hf 0 rfl ?_) | refine a6 (dgJ hf 0 rfl ?_) | fail); simp -implicitDefEqProofs [hn, h35]) | refine hK _ ?_ | refine hK _ _ (by rfl) ?_ | fail)
      refine e7 (m7 [] rfl ?_); simp -implicitDefEqProofs [l4, g7, g9] <;> try rfl
    · refine e8 Tryz.func37 rfl rfl (Nat.le_of_ble_eq_true rfl) ?_
      refine l9 1 0 12 _ 24 6 L.length (E.map tc) rfl rfl (.inr rfl) (show (1 : Nat) < 2 by decide) (show (0 : Nat) < 2 by decide) ?_
      simp [St.mvw]
      repeat' (first | refine d7 ?_ | refine b9 ?_ | refine a8 ?_ | refine b8 ?_ | refine f7 rfl ?_ | refine f6 rfl ?_ | ((first | refine d6 (fun K hK => ?_) | refine d8 f8 (fun K hK => ?_) | refine b7 (cp hpa ?_) | refine a6 (dp hpa ?_) | refine b7 (cgJ hf 0 rfl ?_) | refine a6 (dgJ hf 0 rfl ?_) | fail); simp -implicitDefEqProofs [hn, h35]) | refine hK _ ?_ | refine hK _ _ (by rfl) ?_ | fail)
      refine e7 (m7 [] rfl ?_); simp -implicitDefEqProofs [l4, g7, g9] <;> try rfl
  | true =>
  rw [hP] at hpa hs
  have hty := a9v qx ql
  have htt : (decide (1 ≤ qx.k) && decide (qx.k ≤ 4)) = typB (.mk qx ql) := rfl
  rw [htt] at hty
  cases hT : typB (.mk qx ql) with
  | false =>
    rw [hT] at hty
    clear hs
    rcases hn with hn | hn
    · refine e8 Tryz.func37 rfl rfl (Nat.le_of_ble_eq_true rfl) ?_
      refine l9 1 0 12 _ 24 6 L.length (E.map tc) rfl rfl (.inr rfl) (show (1 : Nat) < 2 by decide) (show (0 : Nat) < 2 by decide) ?_
      simp [St.mvw]
      repeat' (first | refine d7 ?_ | refine b9 ?_ | refine a8 ?_ | refine b8 ?_ | refine f7 rfl ?_ | refine f6 rfl ?_ | ((first | refine d6 (fun K hK => ?_) | refine d8 f8 (fun K hK => ?_) | refine b7 (cp hpa ?_) | refine a6 (dp hpa ?_) | refine b7 (cp hty ?_) | refine a6 (dp hty ?_) | refine b7 (cgJ hf 0 rfl ?_) | refine a6 (dgJ hf 0 rfl ?_) | fail); simp -implicitDefEqProofs [hn, h35]) | refine hK _ ?_ | refine hK _ _ (by rfl) ?_ | fail)
      refine e7 (m7 [] rfl ?_); simp -implicitDefEqProofs [l4, g7, g9] <;> try rfl
    · refine e8 Tryz.func37 rfl rfl (Nat.le_of_ble_eq_true rfl) ?_
      refine l9 1 0 12 _ 24 6 L.length (E.map tc) rfl rfl (.inr rfl) (show (1 : Nat) < 2 by decide) (show (0 : Nat) < 2 by decide) ?_
      simp [St.mvw]
      repeat' (first | refine d7 ?_ | refine b9 ?_ | refine a8 ?_ | refine b8 ?_ | refine f7 rfl ?_ | refine f6 rfl ?_ | ((first | refine d6 (fun K hK => ?_) | refine d8 f8 (fun K hK => ?_) | refine b7 (cp hpa ?_) | refine a6 (dp hpa ?_) | refine b7 (cp hty ?_) | refine a6 (dp hty ?_) | refine b7 (cgJ hf 0 rfl ?_) | refine a6 (dgJ hf 0 rfl ?_) | fail); simp -implicitDefEqProofs [hn, h35]) | refine hK _ ?_ | refine hK _ _ (by rfl) ?_ | fail)
      refine e7 (m7 [] rfl ?_); simp -implicitDefEqProofs [l4, g7, g9] <;> try rfl
  | true =>
  rw [hT] at hty hs
  by_cases h29 : bx.k = 29
  · rcases hn with hn | hn
    · simp [hn, h35, h29] at hs
    · simp [hn, h35, h29] at hs
  · clear hs
    rcases hn with hn | hn
    · refine e8 Tryz.func37 rfl rfl (Nat.le_of_ble_eq_true rfl) ?_
      refine l9 1 0 12 _ 24 6 L.length (E.map tc) rfl rfl (.inr rfl) (show (1 : Nat) < 2 by decide) (show (0 : Nat) < 2 by decide) ?_
      simp [St.mvw]
      repeat' (first | refine d7 ?_ | refine b9 ?_ | refine a8 ?_ | refine b8 ?_ | refine f7 rfl ?_ | refine f6 rfl ?_ | ((first | refine d6 (fun K hK => ?_) | refine d8 f8 (fun K hK => ?_) | refine b7 (cp hpa ?_) | refine a6 (dp hpa ?_) | refine b7 (cp hty ?_) | refine a6 (dp hty ?_) | refine b7 (cgJ hf 0 rfl ?_) | refine a6 (dgJ hf 0 rfl ?_) | fail); simp -implicitDefEqProofs [hn, h35, h29]) | refine hK _ ?_ | refine hK _ _ (by rfl) ?_ | fail)
      refine e7 (m7 [] rfl ?_); simp -implicitDefEqProofs [l4, g7, g9] <;> try rfl
    · refine e8 Tryz.func37 rfl rfl (Nat.le_of_ble_eq_true rfl) ?_
      refine l9 1 0 12 _ 24 6 L.length (E.map tc) rfl rfl (.inr rfl) (show (1 : Nat) < 2 by decide) (show (0 : Nat) < 2 by decide) ?_
      simp [St.mvw]
      repeat' (first | refine d7 ?_ | refine b9 ?_ | refine a8 ?_ | refine b8 ?_ | refine f7 rfl ?_ | refine f6 rfl ?_ | ((first | refine d6 (fun K hK => ?_) | refine d8 f8 (fun K hK => ?_) | refine b7 (cp hpa ?_) | refine a6 (dp hpa ?_) | refine b7 (cp hty ?_) | refine a6 (dp hty ?_) | refine b7 (cgJ hf 0 rfl ?_) | refine a6 (dgJ hf 0 rfl ?_) | fail); simp -implicitDefEqProofs [hn, h35, h29]) | refine hK _ ?_ | refine hK _ _ (by rfl) ?_ | fail)
      refine e7 (m7 [] rfl ?_); simp -implicitDefEqProofs [l4, g7, g9] <;> try rfl
end Go.Proofs.YthmdllhhmhbhbaaGreatDoor.am
end
