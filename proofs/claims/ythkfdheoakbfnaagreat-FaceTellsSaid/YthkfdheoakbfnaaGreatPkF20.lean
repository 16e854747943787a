import Derived.Test.YthkfdheoakbfnaaGreatPkF5
import Derived.Test.YthkfdheoakbfnaaGreatPkF9
import Derived.Test.YthkfdheoakbfnaaGreatPkF19
import Derived.Test.YthkfdheoakbfnaaGreatPkF15
set_option maxRecDepth 100000
set_option maxHeartbeats 4000000
section
namespace Go.Proofs.YthkfdheoakbfnaaGreat.am
open vt
set_option linter.unusedVariables false
set_option linter.unusedSimpArgs false
theorem b77 (t : VT) : y6 (y6 t) = y6 t := by
  induction t using Tr.ind with
  | h x l ih =>
  rw [a1x, a1x, List.map_map]
  congr 1
  exact List.map_congr_left (fun y hy => ih y hy)
theorem b76 (t : VT) : (y6 t).lab.k = t.lab.k ∧ (y6 t).lab.n = t.lab.n := by
  obtain ⟨x, l⟩ := t
  rw [a1x]
  exact ⟨rfl, rfl⟩
theorem c5r (ml : List VT) (d : VT) (hs : b5c d) (hk : kndD d) (he : (a1m ml d).er = 0) : (a1m ml d).t.lab.k = d.lab.k ∧ (a1m ml d).t.lab.n = d.lab.n := by
  obtain ⟨x, l⟩ := d
  unfold a1m at he ⊢
  unfold kndD at hk
  rw [Tr.lab] at he hk ⊢
  rw [Tr.kids] at he ⊢
  split
  · rename_i c
    rw [if_pos c, b0k] at he
    rw [b5r _ _ _ he]
    exact ⟨rfl, rfl⟩
  rename_i c
  rw [if_neg c] at he
  split
  · rename_i c3
    rw [if_pos c3] at he
    unfold fnS at he ⊢
    split
    · rename_i q; rw [if_pos q] at he; exact absurd he q
    rename_i q; rw [if_neg q] at he
    split
    · rename_i q2; rw [if_pos q2] at he; exact absurd he q2
    rename_i q2; rw [if_neg q2] at he
    split
    · rename_i q3; rw [if_pos q3] at he; exact absurd he q3
    exact ⟨rfl, rfl⟩
  · rename_i c3
    rw [if_neg c3] at he
    have k : x.k = 31 ∨ x.k = 32 := by
      rcases hk with h | h | h | h
      · exact absurd h c
      · exact .inl h
      · exact .inr h
      · exact absurd h c3
    rw [a2w] at he ⊢
    rw [if_neg (by omega)] at he ⊢
    split
    · rename_i w; rw [if_pos w] at he; exact absurd (show (8 : Int) = 0 from he) (by decide)
    rename_i w; rw [if_neg w] at he
    obtain ⟨r, e1, _⟩ := a7y ml x [] (Q := fun _ _ => True) l 0 [] [] (fun _ _ _ _ => trivial) he
    rw [e1]
    refine ⟨rfl, ?_⟩
    show (b5x ml x).n = x.n
    unfold b5x
    exact if_neg (by omega)
theorem c1b (m : VT) (i : Nat) (t : VT) (he : (a5x m i t).er = 0) : (a5x m i t).t.lab.k = t.lab.k ∧ (a5x m i t).t.lab.n = t.lab.n ∧ (t.lab.k = 33 → ∃ p pl r b, (a5x m i t).t.kids = [.mk p pl, r, b] ∧ y6 r = r ∧ ∀ q ∈ pl, ∃ qx u ql, q = .mk qx (u :: ql) ∧ y6 u = u) := by
  obtain ⟨x, l⟩ := t
  have hb : ∀ (y : Lab) (e : Int), e ≠ 0 → (u9 y e).er = 0 → False := fun y e h1 h2 => h1 h2
  unfold a5x at he ⊢
  rw [Tr.lab, Tr.kids] at *
  split
  · rename_i c
    rw [if_pos c] at he
    unfold fnT at he ⊢
    split
    · rename_i q; rw [if_pos q] at he; exact (hb _ _ (by decide) he).elim
    rename_i q; rw [if_neg q] at he
    split
    · rename_i a ha; rw [ha] at he; exact (hb _ _ (by decide) he).elim
    rename_i ha; rw [ha] at he
    dsimp only at he
    split
    · rename_i a hb'; rw [hb'] at he; exact (hb _ _ (by decide) he).elim
    rename_i hb'; rw [hb'] at he
    dsimp only at he
    split
    · rename_i e0
      refine ⟨rfl, rfl, fun _ => ?_⟩
      have hp : c1x (l.getD 0 z0T).kids = true := by
        cases hP : c1x (l.getD 0 z0T).kids with
        | true => rfl
        | false => exact absurd (.inr (.inr (.inr (.inl hP)))) q
      generalize l.getD 0 z0T = p at hp ⊢
      obtain ⟨px, pl⟩ := p
      rw [Tr.kids] at hp
      rw [a1x]
      refine ⟨_, _, _, _, rfl, b77 _, fun q hq => ?_⟩
      obtain ⟨q0, hq0, rfl⟩ := List.mem_map.1 hq
      obtain ⟨qx, ql⟩ := q0
      have := List.all_eq_true.1 hp _ hq0
      simp [o9, Tr.kids] at this
      obtain ⟨b, rfl⟩ := w6 (l := ql) (of_decide_eq_true this.2)
      rw [a1x]
      exact ⟨_, _, [], rfl, b77 _⟩
    · rename_i e0; rw [if_neg e0] at he; exact absurd he e0
  rename_i c33
  rw [if_neg c33] at he
  have fin : ∀ g : GR, g.t = y6 (.mk x l) → g.t.lab.k = x.k ∧ g.t.lab.n = x.n ∧ (x.k = 33 → ∃ p pl r b, g.t.kids = [.mk p pl, r, b] ∧ y6 r = r ∧ ∀ q ∈ pl, ∃ qx u ql, q = .mk qx (u :: ql) ∧ y6 u = u) := fun g h => by
    rw [h]
    exact ⟨(b76 _).1, (b76 _).2, fun e => absurd e c33⟩
  split
  · rename_i c; rw [if_pos c] at he
    split
    · rename_i q; rw [if_pos q] at he; exact (hb _ _ (by decide) he).elim
    rename_i q; rw [if_neg q] at he
    split
    · rename_i q; rw [if_pos q] at he; exact (hb _ _ (by decide) he).elim
    exact fin _ rfl
  rename_i c; rw [if_neg c] at he
  split
  · rename_i c; rw [if_pos c] at he
    split
    · rename_i q; rw [if_pos q] at he; exact (hb _ _ (by decide) he).elim
    exact fin _ rfl
  rename_i c; rw [if_neg c] at he
  split
  · rename_i q; rw [if_pos q] at he; exact (hb _ _ (by decide) he).elim
  exact fin _ rfl
theorem a65 (m : VT) : ∀ (l : List VT) (j i : Nat), (x6 m j l)[i]? = (l[i]?).map (a5x m (j + i))
  | [], j, i => by simp [x6]
  | t :: r, j, 0 => by simp [x6]
  | t :: r, j, i + 1 => by
    rw [x6, List.getElem?_cons_succ, a65 m r (j + 1) i, List.getElem?_cons_succ, show j + 1 + i = j + (i + 1) by omega]
theorem a84 (m : VT) : ∀ (l : List VT) (j : Nat), (x6 m j l).length = l.length
  | [], j => rfl
  | t :: r, j => by rw [x6, List.length_cons, a84 m r, List.length_cons]
theorem c1t (m : VT) (h : (a8e m).er = 0) : ∃ y, (a8e m).t = .mk y ((x6 m 0 m.kids).map GR.t) ∧ ∀ g ∈ x6 m 0 m.kids, g.er = 0 := by
  unfold a8e at h ⊢
  split
  · rename_i c; rw [if_pos c] at h; exact absurd (show (12 : Int) = 0 from h) (by decide)
  rename_i c; rw [if_neg c] at h
  split
  · rename_i g hg
    rw [hg] at h
    have := List.find?_some hg
    simp at this
    exact absurd h this
  · rename_i hg
    refine ⟨_, rfl, fun g hm => ?_⟩
    have := List.find?_eq_none.1 hg g hm
    simpa using this
theorem fac_ok (x : Lab) (ml : List VT) (hs : ∀ d ∈ ml, b5c d) (hk : ∀ d ∈ ml, kndD d) (he : (a2i x ml).er = 0) (hm : (a8e (a2i x ml).t).er = 0) : ∃ y sl, (a8e (a2i x ml).t).t = .mk y sl ∧ ml.length = sl.length ∧ ∀ (i : Nat) a d, ml[i]? = some a → sl[i]? = some d → FacOk a d := by
  obtain ⟨y, h1, h2⟩ := c1t _ hm
  have hd : ∃ z dl, (a2i x ml).t = .mk z dl ∧ ml.length = dl.length ∧ ∀ (i : Nat) a b, ml[i]? = some a → dl[i]? = some b → b.lab.k = a.lab.k ∧ b.lab.n = a.lab.n := by
    unfold a2i at he ⊢
    split
    · rename_i f hf; rw [hf] at he; exact absurd (show (9 : Int) = 0 from he) (by decide)
    rename_i hf
    rw [hf] at he
    dsimp only at he
    rw [b0k] at he
    rw [b5r _ _ _ he, List.nil_append]
    obtain ⟨e1, e2⟩ := a66 ml (Q := fun a b => b.lab.k = a.lab.k ∧ b.lab.n = a.lab.n) ml (fun d hd h => c5r ml d (hs d hd) (hk d hd) h) he
    exact ⟨_, _, rfl, e1, e2⟩
  obtain ⟨z, dl, e1, e2, e3⟩ := hd
  rw [e1] at h1 h2 ⊢
  rw [Tr.kids] at h1 h2
  refine ⟨y, _, h1, by rw [List.length_map, a84, e2], fun i a d ha hd => ?_⟩
  rw [List.getElem?_map, a65] at hd
  obtain ⟨b, hb⟩ : ∃ b, dl[i]? = some b := ⟨_, List.getElem?_eq_getElem (by rw [← e2]; exact (List.getElem?_eq_some_iff.1 ha).1)⟩
  rw [hb] at hd
  simp at hd
  have hg : a5x (.mk z dl) (0 + i) b ∈ x6 (.mk z dl) 0 dl := List.mem_iff_getElem?.2 ⟨i, by rw [a65, hb]; rfl⟩
  obtain ⟨q1, q2, q3⟩ := c1b _ _ _ (h2 _ hg)
  obtain ⟨r1, r2⟩ := e3 i a b ha hb
  rw [Nat.zero_add] at q1 q2 q3
  rw [hd] at q1 q2 q3
  exact ⟨by rw [q1, r1], by rw [q2, r2], fun h => q3 (by rw [← q1]; exact h)⟩
theorem b67 (ml : List VT) (s : ByteArray) : -1 ≤ a1j ml s ∧ a1j ml s ≤ (ml.length : Int) := by
  unfold a1j dcl
  split
  · rename_i i h
    obtain ⟨h1, _⟩ := List.findIdx?_eq_some_iff_getElem.1 h
    omega
  · omega
theorem loc_lt {L : List ByteArray} {s : ByteArray} {n : Nat} (h : b5v L s = some n) : n < L.length := by
  unfold b5v at h
  obtain ⟨h1, _⟩ := List.findIdx?_eq_some_iff_getElem.1 h
  simpa using h1
theorem nam_in {ml : List VT} {L : List ByteArray} {x : Lab} (hx : Lab.ok x) (hL : L.length ≤ 1000000000) (hm : ml.length ≤ 1000000000) (h : (b5w ml L x).er = 0) : t7 (b5w ml L x).t := by
  obtain ⟨_, _, h3, h4⟩ := hx
  have hd := b67 ml x.s
  unfold b5w at h ⊢
  split
  · rename_i n e
    have := loc_lt e
    exact (Tr.all_mk _ _ _).2 ⟨⟨⟨by dsimp only; omega, by dsimp only; omega⟩, by dsimp only; omega, h3, h4⟩, fun y hy => by cases hy⟩
  · rename_i e
    rw [e] at h
    dsimp only at h
    split
    · exact (Tr.all_mk _ _ _).2 ⟨⟨⟨by dsimp only; omega, by dsimp only; omega⟩, by dsimp only; omega, h3, h4⟩, fun y hy => by cases hy⟩
    · rename_i c1
      rw [if_neg c1] at h
      split
      · exact (Tr.all_mk _ _ _).2 ⟨⟨⟨by dsimp only; omega, by dsimp only; omega⟩, by dsimp only; omega, h3, h4⟩, fun y hy => by cases hy⟩
      · rename_i c2
        rw [if_neg c2] at h
        exact absurd (show (8 : Int) = 0 from h) (by decide)
theorem out_in {ml : List VT} {x : Lab} (hx : Lab.ok x) (hm : ml.length ≤ 1000000000) : Lab.ok (b5x ml x) := by
  obtain ⟨h1, h2, h3, h4⟩ := hx
  have hd := b67 ml x.s
  refine ⟨h1, ?_, h3, h4⟩
  show -9223372036854775808 ≤ (if x.k = 16 ∨ x.k = 15 ∨ x.k = 4 then a1j ml x.s else x.n) ∧ (if x.k = 16 ∨ x.k = 15 ∨ x.k = 4 then a1j ml x.s else x.n) ≤ 9223372036854775807
  split <;> omega
theorem c4i {ml : List VT} {x : Lab} (hx : Lab.ok x) (hm : ml.length ≤ 1000000000) (L : List ByteArray) (B : Nat) : ∀ (r : List VT) (i : Nat) (kn : List ByteArray) (acc : List VT), (∀ y ∈ r, ∀ K : List ByteArray, K.length + y.size ≤ B → (u4 ml y K).er = 0 → t7 (u4 ml y K).t) → (∀ y ∈ acc, t7 y) → kn.length + (r.map Tr.size).sum ≤ B → L.length + 1 + (r.map Tr.size).sum ≤ B → (a46 ml x L i r kn acc).er = 0 → t7 (a46 ml x L i r kn acc).t
  | [], i, kn, acc, hq, ha, h1, h2, h => by
    unfold a46
    exact (Tr.all_mk _ _ _).2 ⟨out_in hx hm, ha⟩
  | y :: r, i, kn, acc, hq, ha, h1, h2, h => by
    have hy := Tr.size_pos y
    simp only [List.map_cons, List.sum_cons] at h1 h2
    have hK : (a5b x L i kn).length + (y.size + (r.map Tr.size).sum) ≤ B := by
      unfold a5b
      split
      · simp only [List.length_append, List.length_cons, List.length_nil]; omega
      · exact h1
    unfold a46 at h ⊢
    split
    · rename_i c; rw [if_pos c] at h; exact absurd h c
    rename_i c
    rw [if_neg c] at h
    have c : (u4 ml y (a5b x L i kn)).er = 0 := by simpa using c
    have hn : (knxS x (a5b x L i kn) y).length ≤ (a5b x L i kn).length + 1 := by
      unfold knxS b1l
      split
      · split <;> simp
      · omega
    refine c4i hx hm L B r _ _ _ (fun z hz => hq z (.tail _ hz)) (fun z hz => ?_) (by omega) (by omega) h
    rcases List.mem_append.1 hz with hz | hz
    · exact ha z hz
    · rw [List.mem_singleton.1 hz]; exact hq y (.head _) _ (by omega) c
theorem b2f {ml : List VT} (hm : ml.length ≤ 1000000000) (t : VT) : t7 t → ∀ L : List ByteArray, L.length + t.size ≤ 1000000000 → (u4 ml t L).er = 0 → t7 (u4 ml t L).t := by
  induction t using Tr.ind with
  | h x l ih =>
  intro hi L hL h
  obtain ⟨hx, hl⟩ := (Tr.all_mk _ _ _).1 hi
  rw [Tr.size_mk] at hL
  rw [a2w] at h ⊢
  split
  · rename_i c; rw [if_pos c] at h; exact nam_in hx (by omega) hm h
  rename_i c; rw [if_neg c] at h
  split
  · rename_i d; rw [if_pos d] at h; exact absurd (show (8 : Int) = 0 from h) (by decide)
  rename_i d; rw [if_neg d] at h
  exact c4i hx hm L 1000000000 l 0 L [] (fun y hy K hK he => ih y hy (hl y hy) K hK he) (fun y hy => by cases hy) (by omega) (by omega) h
theorem c58 {keep : Bool} {u : VT} {s : ByteArray} (h : t7 u) : t7 (b1h keep u s) := by
  unfold b1h
  split
  · obtain ⟨ux, ul⟩ := u
    exact (Tr.all_mk _ _ _).2 ((Tr.all_mk _ _ _).1 h)
  · exact h
theorem b8l {ml : List VT} (hm : ml.length ≤ 1000000000) (keep : Bool) : ∀ (l : List VT) (seen : List ByteArray), (∀ y ∈ l, t7 y ∧ y.size ≤ 1000000000) → (s8 ml keep seen l).2.2 = 0 → ∀ y ∈ (s8 ml keep seen l).1, t7 y
  | [], seen, hi, h => fun y hy => by cases hy
  | y :: l, seen, hi, h => by
    unfold s8 at h ⊢
    split
    · rename_i c; rw [if_pos c] at h; exact absurd (show (9 : Int) = 0 from h) (by decide)
    rename_i c; rw [if_neg c] at h
    split
    · rename_i c2; rw [if_pos c2] at h; exact absurd h c2
    rename_i c2; rw [if_neg c2] at h
    split
    · rename_i c3; rw [if_pos c3] at h; exact absurd h c3
    rename_i c3
    have ihl := b8l hm keep l _ (fun z hz => hi z (.tail _ hz)) (by simpa using c3)
    intro z hz
    rcases List.mem_cons.1 hz with hz | hz
    · rw [hz]; exact c58 (b2f hm y (hi y (.head _)).1 [] (by have := (hi y (.head _)).2; simpa using this) (by simpa using c2))
    · exact ihl z hz
theorem dec_in {ml : List VT} (hm : ml.length ≤ 1000000000) (d : VT) (hs : b5c d) (hi : t7 d) (hz : d.size ≤ 1000000000) (he : (a1m ml d).er = 0) : t7 (a1m ml d).t := by
  obtain ⟨x, l⟩ := d
  obtain ⟨hx, hl⟩ := (Tr.all_mk _ _ _).1 hi
  have hpart : ∀ y ∈ l, t7 y ∧ y.size ≤ 1000000000 := fun y hy => ⟨hl y hy, by
    obtain ⟨i, hi⟩ := List.mem_iff_getElem?.1 hy
    have := Tr.size_at (x := x) hi
    omega⟩
  have hx' : Lab.ok ⟨x.k, x.n, ⟨#[]⟩, x.f, x.t⟩ := hx
  unfold a1m at he ⊢
  unfold b5c at hs
  rw [Tr.lab] at he hs ⊢
  rw [Tr.kids] at he hs ⊢
  split
  · rename_i c
    rw [if_pos c, b0k] at he
    rw [b5r _ _ _ he, List.nil_append]
    exact (Tr.all_mk _ _ _).2 ⟨hx', b8l hm true l [] hpart he⟩
  rename_i c
  rw [if_neg c] at he hs
  split
  · rename_i c3
    rw [if_pos c3] at he hs
    obtain ⟨p, pl, r, b, hk, hp35, hn, hp, hr, hb⟩ := hs
    subst hk
    simp only [List.getD_cons_zero, List.getD_cons_succ, Tr.lab, Tr.kids] at he ⊢
    have hp0 := (hpart _ (.head _)).1
    have hr0 := hpart r (.tail _ (.head _))
    have hb0 := hpart b (.tail _ (.tail _ (.head _)))
    obtain ⟨px, hpl⟩ := (Tr.all_mk _ _ _).1 hp0
    have hsum : pl.length + b.size ≤ 1000000000 := by
      have e1 := Tr.len_size (x := p) (l := pl)
      rw [Tr.size_mk] at hz
      simp only [List.map_cons, List.map_nil, List.sum_cons, List.sum_nil] at hz
      omega
    have hpp : ∀ y ∈ pl, t7 y ∧ y.size ≤ 1000000000 := fun y hy => ⟨hpl y hy, by
      obtain ⟨i, hi⟩ := List.mem_iff_getElem?.1 hy
      have := Tr.size_at (x := p) hi
      have := (hpart _ (.head _)).2
      omega⟩
    unfold fnS at he ⊢
    split
    · rename_i q; rw [if_pos q] at he; exact absurd he q
    rename_i q; rw [if_neg q] at he
    split
    · rename_i q2; rw [if_pos q2] at he; exact absurd he q2
    rename_i q2; rw [if_neg q2] at he
    split
    · rename_i q3; rw [if_pos q3] at he; exact absurd he q3
    rename_i q3
    refine (Tr.all_mk _ _ _).2 ⟨hx', fun y hy => ?_⟩
    rcases List.mem_cons.1 hy with hy | hy
    · rw [hy]
      exact (Tr.all_mk _ _ _).2 ⟨⟨px.1, by dsimp only; omega, px.2.2.1, px.2.2.2⟩, b8l hm false pl [] hpp (by simpa using q)⟩
    rcases List.mem_cons.1 hy with hy | hy
    · rw [hy]; exact b2f hm r hr0.1 [] (by simpa using hr0.2) (by simpa using q2)
    · rw [List.mem_singleton.1 hy]
      exact b2f hm b hb0.1 _ (by simpa using hsum) (by simpa using q3)
  · rename_i c3
    rw [if_neg c3] at he
    exact b2f hm _ hi [] (by simpa using hz) he
theorem res_in (x : Lab) (ml : List VT) (hi : t7 (.mk x ml)) (hz : Tr.size (Tr.mk x ml) ≤ 1000000000) (hs : ∀ d ∈ ml, b5c d) (h : (a2i x ml).er = 0) : t7 (a2i x ml).t := by
  obtain ⟨hx, hl⟩ := (Tr.all_mk _ _ _).1 hi
  have hlen := Tr.len_size (x := x) (l := ml)
  unfold a2i at h ⊢
  split
  · rename_i f hf; rw [hf] at h; exact absurd (show (9 : Int) = 0 from h) (by decide)
  · rename_i hf
    rw [hf] at h
    dsimp only at h
    rw [b0k] at h
    rw [b5r _ _ _ h, List.nil_append]
    obtain ⟨e1, e2⟩ := a66 ml (Q := fun a b => t7 b) ml (fun d hd he => dec_in (by omega) d (hs d hd) (hl d hd) (by
      obtain ⟨i, hi⟩ := List.mem_iff_getElem?.1 hd
      have := Tr.size_at (x := x) hi
      omega) he) h
    refine (Tr.all_mk _ _ _).2 ⟨hx, fun y hy => ?_⟩
    obtain ⟨i, hi⟩ := List.mem_iff_getElem?.1 hy
    have hil := (List.getElem?_eq_some_iff.1 hi).1
    exact e2 i ml[i] y (List.getElem?_eq_getElem (by omega)) hi
end Go.Proofs.YthkfdheoakbfnaaGreat.am
end
section
namespace Go.Proofs.YthkfdheoakbfnaaGreat.am
open Go.ChangeShapes Go.WideShapes Go.ChangeAt Go.RowKit
open vt
set_option linter.unusedVariables false
set_option linter.unusedSimpArgs false
theorem c3z {ts : List Tok} (ht : TO ts) : ∀ (m i : Nat) (acc : List VT), i ≤ ts.length → PS ts 0 i acc → (lpU ts m i acc).2.2 = 0 → PS ts 0 (lpU ts m i acc).2.1 (lpU ts m i acc).1
  | 0, i, acc, hi, h => fun h' => by rw [lpU] at h'; exact absurd h' (by simp)
  | m + 1, i, acc, hi, h => by
    rw [lpU]
    by_cases h0 : ts.length ≤ i + 1
    · rw [if_pos h0]; exact fun _ => h
    rw [if_neg h0]
    have hk := a3r (ts := ts) i hi
    by_cases h1 : (p8 ts i).2.2 ≠ 0
    · rw [if_pos h1]; exact fun h' => absurd h' h1
    · rw [if_neg h1]
      have h1 : (p8 ts i).2.2 = 0 := by simpa using h1
      exact c3z ht m _ _ (hk.ok.yes h1).2 (y4 ht h (Nat.zero_le _) (Nat.le_refl _) hk.ok h1 (c5t ht i hi))
theorem mod_al {ts : List Tok} (ht : TO ts) (s : ByteArray) (hs : s.size ≤ 8192) (m : Nat) (h : (lpU ts m 0 []).2.2 = 0) : Tr.all A6 (c35 s (lpU ts m 0 []).1) := by
  have hp := c3z ht m 0 [] (Nat.zero_le _) (y8 ht (Nat.le_refl _) (Nat.zero_le _)) h
  have e : I6 (s.size : Int) := ⟨by omega, by omega⟩
  exact (Tr.all_mk _ _ _).2 ⟨⟨(show I6 36 by decide), (show I6 0 by decide), (show I6 0 by decide), e⟩, hp.al⟩
theorem c68 (s : ByteArray) (he : (o7 s).2.2 = 0) : t7 (o7 s).1 := by
  unfold o7 at he ⊢
  split
  · rename_i c; rw [if_pos c] at he; exact absurd he c
  rename_i c; rw [if_neg c] at he
  have hk := b3v (s := s) (by simpa using c)
  obtain ⟨M, _, _, _, _, hs⟩ := hk.ex
  unfold modG at he ⊢
  split
  · rename_i c; rw [if_pos c] at he; exact absurd he c
  rename_i c1; rw [if_neg c1] at he
  split
  · rename_i c; rw [if_pos c] at he; exact absurd (show (11 : Int) = 0 from he) (by decide)
  rename_i c; rw [if_neg c] at he
  split
  · rename_i c; rw [if_pos c] at he; exact absurd (show (7 : Int) = 0 from he) (by decide)
  · exact mod_al (c4o hk) s hs _ (by simpa using c1)
theorem td_got16 : td Tryz.prog 63 = some ⟨true, 8, 88, [.lit (.int .i64 0), .lit (.int .i64 0), .lit (.string ⟨#[]⟩), .nilS, .lit (.int .i64 0), .lit (.int .i64 0), .lit (.int .i64 0), .lit (.int .i64 0)], [(0, 6, true), (6, 1, false), (7, 1, false)], .struct⟩ := Eq.trans (by kernel_rfl) (Eq.refl _)
attribute [simp] td_got16
noncomputable abbrev vGr (g : GR) : AV := .v (.agg (ta g.t ++ [.pv (I g.pl), .pv (I g.er)]))
abbrev vII (p : Int × Int) : AV := .tup [.c (.pv (I p.1)), .c (.pv (I p.2))]
theorem n8 (x : Lab) (l : List VT) (e : Int) : Row Tryz.prog 46 [vT (.mk x l), vI e] [] (vGr (u9 x e)) [] := by
  unfold u9
  refine f6 Tryz.func46 rfl rfl (Nat.le_of_ble_eq_true rfl) ?_
  repeat (first | refine d4 ?_ | refine b8 ?_ | refine b7 ?_ | refine b9 ?_ | refine f5 rfl ?_ | refine d8 rfl ?_ | ((first | refine c5 (fun K hK => ?_) | refine d5 f8 (fun K hK => ?_) | fail); simp -implicitDefEqProofs; first | refine hK _ ?_ | refine hK _ _ (by rfl) ?_ | fail) | fail)
  refine d7 (d6 ?_); simp -implicitDefEqProofs [g8, f9, g7] <;> try rfl
theorem a9t (g : GV) : Row Tryz.prog 94 [vGt g] [] (vGr (b4n g)) [] := by
  obtain ⟨⟨ax, al⟩, ⟨bx, bl⟩, p, e⟩ := g
  unfold b4n
  refine f6 Tryz.func94 rfl rfl (Nat.le_of_ble_eq_true rfl) ?_
  repeat (first | refine d4 ?_ | refine b8 ?_ | refine b7 ?_ | refine b9 ?_ | refine f5 rfl ?_ | refine d8 rfl ?_ | ((first | refine c5 (fun K hK => ?_) | refine d5 f8 (fun K hK => ?_) | fail); simp -implicitDefEqProofs; first | refine hK _ ?_ | refine hK _ _ (by rfl) ?_ | fail) | fail)
  refine d7 (d6 ?_); simp -implicitDefEqProofs [g8, f9, g7] <;> try rfl
theorem a6i (k : Int) : Row Tryz.prog 91 [vI k] [] (vII (a2u k)) [] := by
  unfold a2u
  by_cases c20 : k = 20
  · subst c20
    refine f6 Tryz.func91 rfl rfl (Nat.le_of_ble_eq_true rfl) ?_
    repeat (first | refine d4 ?_ | refine b8 ?_ | refine b7 ?_ | refine b9 ?_ | refine f5 rfl ?_ | refine d8 rfl ?_ | ((first | refine c5 (fun K hK => ?_) | refine d5 f8 (fun K hK => ?_) | fail); simp -implicitDefEqProofs; first | refine hK _ ?_ | refine hK _ _ (by rfl) ?_ | fail) | fail)
    refine d7 (d6 ?_); simp -implicitDefEqProofs [g8, f9, g7] <;> try rfl
  by_cases c21 : k = 21
  · subst c21
    refine f6 Tryz.func91 rfl rfl (Nat.le_of_ble_eq_true rfl) ?_
    repeat (first | refine d4 ?_ | refine b8 ?_ | refine b7 ?_ | refine b9 ?_ | refine f5 rfl ?_ | refine d8 rfl ?_ | ((first | refine c5 (fun K hK => ?_) | refine d5 f8 (fun K hK => ?_) | fail); simp -implicitDefEqProofs; first | refine hK _ ?_ | refine hK _ _ (by rfl) ?_ | fail) | fail)
    refine d7 (d6 ?_); simp -implicitDefEqProofs [g8, f9, g7] <;> try rfl
  by_cases c26 : k = 26
  · subst c26
    refine f6 Tryz.func91 rfl rfl (Nat.le_of_ble_eq_true rfl) ?_
    repeat (first | refine d4 ?_ | refine b8 ?_ | refine b7 ?_ | refine b9 ?_ | refine f5 rfl ?_ | refine d8 rfl ?_ | ((first | refine c5 (fun K hK => ?_) | refine d5 f8 (fun K hK => ?_) | fail); simp -implicitDefEqProofs; first | refine hK _ ?_ | refine hK _ _ (by rfl) ?_ | fail) | fail)
    refine d7 (d6 ?_); simp -implicitDefEqProofs [g8, f9, g7] <;> try rfl
  by_cases c27 : k = 27
  · subst c27
    refine f6 Tryz.func91 rfl rfl (Nat.le_of_ble_eq_true rfl) ?_
    repeat (first | refine d4 ?_ | refine b8 ?_ | refine b7 ?_ | refine b9 ?_ | refine f5 rfl ?_ | refine d8 rfl ?_ | ((first | refine c5 (fun K hK => ?_) | refine d5 f8 (fun K hK => ?_) | fail); simp -implicitDefEqProofs; first | refine hK _ ?_ | refine hK _ _ (by rfl) ?_ | fail) | fail)
    refine d7 (d6 ?_); simp -implicitDefEqProofs [g8, f9, g7] <;> try rfl
  by_cases c28 : k = 28
  · subst c28
    refine f6 Tryz.func91 rfl rfl (Nat.le_of_ble_eq_true rfl) ?_
    repeat (first | refine d4 ?_ | refine b8 ?_ | refine b7 ?_ | refine b9 ?_ | refine f5 rfl ?_ | refine d8 rfl ?_ | ((first | refine c5 (fun K hK => ?_) | refine d5 f8 (fun K hK => ?_) | fail); simp -implicitDefEqProofs; first | refine hK _ ?_ | refine hK _ _ (by rfl) ?_ | fail) | fail)
    refine d7 (d6 ?_); simp -implicitDefEqProofs [g8, f9, g7] <;> try rfl
  by_cases c22 : k = 22
  · subst c22
    refine f6 Tryz.func91 rfl rfl (Nat.le_of_ble_eq_true rfl) ?_
    repeat (first | refine d4 ?_ | refine b8 ?_ | refine b7 ?_ | refine b9 ?_ | refine f5 rfl ?_ | refine d8 rfl ?_ | ((first | refine c5 (fun K hK => ?_) | refine d5 f8 (fun K hK => ?_) | fail); simp -implicitDefEqProofs; first | refine hK _ ?_ | refine hK _ _ (by rfl) ?_ | fail) | fail)
    refine d7 (d6 ?_); simp -implicitDefEqProofs [g8, f9, g7] <;> try rfl
  by_cases c23 : k = 23
  · subst c23
    refine f6 Tryz.func91 rfl rfl (Nat.le_of_ble_eq_true rfl) ?_
    repeat (first | refine d4 ?_ | refine b8 ?_ | refine b7 ?_ | refine b9 ?_ | refine f5 rfl ?_ | refine d8 rfl ?_ | ((first | refine c5 (fun K hK => ?_) | refine d5 f8 (fun K hK => ?_) | fail); simp -implicitDefEqProofs; first | refine hK _ ?_ | refine hK _ _ (by rfl) ?_ | fail) | fail)
    refine d7 (d6 ?_); simp -implicitDefEqProofs [g8, f9, g7] <;> try rfl
  by_cases c24 : k = 24
  · subst c24
    refine f6 Tryz.func91 rfl rfl (Nat.le_of_ble_eq_true rfl) ?_
    repeat (first | refine d4 ?_ | refine b8 ?_ | refine b7 ?_ | refine b9 ?_ | refine f5 rfl ?_ | refine d8 rfl ?_ | ((first | refine c5 (fun K hK => ?_) | refine d5 f8 (fun K hK => ?_) | fail); simp -implicitDefEqProofs; first | refine hK _ ?_ | refine hK _ _ (by rfl) ?_ | fail) | fail)
    refine d7 (d6 ?_); simp -implicitDefEqProofs [g8, f9, g7] <;> try rfl
  by_cases c25 : k = 25
  · subst c25
    refine f6 Tryz.func91 rfl rfl (Nat.le_of_ble_eq_true rfl) ?_
    repeat (first | refine d4 ?_ | refine b8 ?_ | refine b7 ?_ | refine b9 ?_ | refine f5 rfl ?_ | refine d8 rfl ?_ | ((first | refine c5 (fun K hK => ?_) | refine d5 f8 (fun K hK => ?_) | fail); simp -implicitDefEqProofs; first | refine hK _ ?_ | refine hK _ _ (by rfl) ?_ | fail) | fail)
    refine d7 (d6 ?_); simp -implicitDefEqProofs [g8, f9, g7] <;> try rfl
  refine f6 Tryz.func91 rfl rfl (Nat.le_of_ble_eq_true rfl) ?_
  repeat (first | refine d4 ?_ | refine b8 ?_ | refine b7 ?_ | refine b9 ?_ | refine f5 rfl ?_ | refine d8 rfl ?_ | ((first | refine c5 (fun K hK => ?_) | refine d5 f8 (fun K hK => ?_) | fail); simp -implicitDefEqProofs [c20, c21, c22, c23, c24, c25, c26, c27, c28]; first | refine hK _ ?_ | refine hK _ _ (by rfl) ?_ | fail) | fail)
  refine d7 (d6 ?_); simp -implicitDefEqProofs [g8, f9, g7, c20, c21, c22, c23, c24, c25, c26, c27, c28] <;> try rfl
theorem b8w (m : VT) (L : List VT) (B : Nat) (hm : a0d B m) (hL : ∀ t ∈ L, a0d B t) (hB : B ≤ 400000) (hLl : L.length ≤ 1000000) (t : VT) (ht : t7 t) (hts : t.size ≤ 400000) (a b : Int) : Row Tryz.prog 92 [vT m, vLs L, vT t, vI a, vI b] [] (vGr (c0e m L t a b)) [] := by
  have hof := a7x m L B hm hL hB hLl t ht hts
  obtain ⟨x, l⟩ := t
  have hba := n8 x l 10
  unfold c0e
  have hfr := a9t (ofT m L (.mk x l))
  rw [Tr.lab]
  obtain ⟨⟨⟨ax, al⟩, ⟨bx, bl⟩, p, e⟩, hG⟩ : ∃ g, ofT m L (.mk x l) = g := ⟨_, rfl⟩
  rw [hG] at hof hfr ⊢
  have i1 := a0j (.mk ax al) a
  have i2 := a0j (.mk ax al) b
  obtain ⟨p1, q1⟩ : ∃ p, isT (.mk ax al) a = p := ⟨_, rfl⟩
  obtain ⟨p2, q2⟩ : ∃ p, isT (.mk ax al) b = p := ⟨_, rfl⟩
  rw [q1] at i1 ⊢
  rw [q2] at i2 ⊢
  unfold u9 at hba ⊢
  unfold b4n at hfr ⊢
  clear hG q1 q2
  obtain ⟨mx, ml⟩ := m
  by_cases he : e = 0
  · subst he
    cases p1 <;> cases p2
    · refine f6 Tryz.func92 rfl rfl (Nat.le_of_ble_eq_true rfl) ?_
      repeat' (first | refine d4 ?_ | refine b8 ?_ | refine b7 ?_ | refine b9 ?_ | refine f5 rfl ?_ | refine d8 rfl ?_ | ((first | refine c5 (fun K hK => ?_) | refine d5 f8 (fun K hK => ?_) | refine a9 (cp hof ?_) | refine a8 (dp hof ?_) | refine a9 (cp i1 ?_) | refine a8 (dp i1 ?_) | refine a9 (cp i2 ?_) | refine a8 (dp i2 ?_) | refine a9 (cp hba ?_) | refine a8 (dp hba ?_) | refine a9 (cp hfr ?_) | refine a8 (dp hfr ?_) | fail); simp -implicitDefEqProofs) | refine hK _ ?_ | refine hK _ _ (by rfl) ?_ | fail)
      refine d7 (d6 ?_); simp -implicitDefEqProofs [g8, f9, g7] <;> try rfl
    · refine f6 Tryz.func92 rfl rfl (Nat.le_of_ble_eq_true rfl) ?_
      repeat' (first | refine d4 ?_ | refine b8 ?_ | refine b7 ?_ | refine b9 ?_ | refine f5 rfl ?_ | refine d8 rfl ?_ | ((first | refine c5 (fun K hK => ?_) | refine d5 f8 (fun K hK => ?_) | refine a9 (cp hof ?_) | refine a8 (dp hof ?_) | refine a9 (cp i1 ?_) | refine a8 (dp i1 ?_) | refine a9 (cp i2 ?_) | refine a8 (dp i2 ?_) | refine a9 (cp hba ?_) | refine a8 (dp hba ?_) | refine a9 (cp hfr ?_) | refine a8 (dp hfr ?_) | fail); simp -implicitDefEqProofs) | refine hK _ ?_ | refine hK _ _ (by rfl) ?_ | fail)
      refine d7 (d6 ?_); simp -implicitDefEqProofs [g8, f9, g7] <;> try rfl
    · refine f6 Tryz.func92 rfl rfl (Nat.le_of_ble_eq_true rfl) ?_
      repeat' (first | refine d4 ?_ | refine b8 ?_ | refine b7 ?_ | refine b9 ?_ | refine f5 rfl ?_ | refine d8 rfl ?_ | ((first | refine c5 (fun K hK => ?_) | refine d5 f8 (fun K hK => ?_) | refine a9 (cp hof ?_) | refine a8 (dp hof ?_) | refine a9 (cp i1 ?_) | refine a8 (dp i1 ?_) | refine a9 (cp i2 ?_) | refine a8 (dp i2 ?_) | refine a9 (cp hba ?_) | refine a8 (dp hba ?_) | refine a9 (cp hfr ?_) | refine a8 (dp hfr ?_) | fail); simp -implicitDefEqProofs) | refine hK _ ?_ | refine hK _ _ (by rfl) ?_ | fail)
      refine d7 (d6 ?_); simp -implicitDefEqProofs [g8, f9, g7] <;> try rfl
    · refine f6 Tryz.func92 rfl rfl (Nat.le_of_ble_eq_true rfl) ?_
      repeat' (first | refine d4 ?_ | refine b8 ?_ | refine b7 ?_ | refine b9 ?_ | refine f5 rfl ?_ | refine d8 rfl ?_ | ((first | refine c5 (fun K hK => ?_) | refine d5 f8 (fun K hK => ?_) | refine a9 (cp hof ?_) | refine a8 (dp hof ?_) | refine a9 (cp i1 ?_) | refine a8 (dp i1 ?_) | refine a9 (cp i2 ?_) | refine a8 (dp i2 ?_) | refine a9 (cp hba ?_) | refine a8 (dp hba ?_) | refine a9 (cp hfr ?_) | refine a8 (dp hfr ?_) | fail); simp -implicitDefEqProofs) | refine hK _ ?_ | refine hK _ _ (by rfl) ?_ | fail)
      refine d7 (d6 ?_); simp -implicitDefEqProofs [g8, f9, g7] <;> try rfl
  · refine f6 Tryz.func92 rfl rfl (Nat.le_of_ble_eq_true rfl) ?_
    repeat' (first | refine d4 ?_ | refine b8 ?_ | refine b7 ?_ | refine b9 ?_ | refine f5 rfl ?_ | refine d8 rfl ?_ | ((first | refine c5 (fun K hK => ?_) | refine d5 f8 (fun K hK => ?_) | refine a9 (cp hof ?_) | refine a8 (dp hof ?_) | refine a9 (cp i1 ?_) | refine a8 (dp i1 ?_) | refine a9 (cp i2 ?_) | refine a8 (dp i2 ?_) | refine a9 (cp hba ?_) | refine a8 (dp hba ?_) | refine a9 (cp hfr ?_) | refine a8 (dp hfr ?_) | fail); simp -implicitDefEqProofs [he]) | refine hK _ ?_ | refine hK _ _ (by rfl) ?_ | fail)
    refine d7 (d6 ?_); simp -implicitDefEqProofs [g8, f9, g7, he] <;> try rfl
theorem b1s (m : VT) (L : List VT) (B : Nat) (hm : a0d B m) (hL : ∀ t ∈ L, a0d B t) (hB : B ≤ 400000) (hLl : L.length ≤ 900000) (t : VT) (ht : t7 t) (hts : t.size ≤ 400000) : Row Tryz.prog 79 [vT m, vLs L, vT t] [] (vLs (c3d m L t)) [] := by
  obtain ⟨x, l⟩ := t
  unfold c3d
  rw [Tr.lab, Tr.kids]
  have b1 : (L.length + 1) * 72 ≤ 140737488355328 := by omega
  have b2 : L.length + 1 ≤ 140737488355328 := by omega
  have b3 : L.length * 72 ≤ 140737488355328 := by omega
  have b4 : L.length ≤ 140737488355328 := by omega
  by_cases h1 : l.length = 1; rotate_left
  · rw [if_neg (fun h => h1 h.2), if_neg (fun h => h1 h.2)]
    have h1' : ¬ (l.length : Int) = 1 := by omega
    obtain ⟨mx, ml⟩ := m
    by_cases c20 : x.k = 20
    · refine f6 Tryz.func79 rfl rfl (Nat.le_of_ble_eq_true rfl) ?_
      repeat (first | refine d4 ?_ | refine b8 ?_ | refine b7 ?_ | refine b9 ?_ | refine f5 rfl ?_ | refine d8 rfl ?_ | ((first | refine c5 (fun K hK => ?_) | refine d5 f8 (fun K hK => ?_) | fail); simp -implicitDefEqProofs [c20, h1, h1']; first | refine hK _ ?_ | refine hK _ _ (by rfl) ?_ | fail) | fail)
      refine d7 (d6 ?_); simp -implicitDefEqProofs [g8, f9, g7] <;> try rfl
    · by_cases c21 : x.k = 21
      · refine f6 Tryz.func79 rfl rfl (Nat.le_of_ble_eq_true rfl) ?_
        repeat (first | refine d4 ?_ | refine b8 ?_ | refine b7 ?_ | refine b9 ?_ | refine f5 rfl ?_ | refine d8 rfl ?_ | ((first | refine c5 (fun K hK => ?_) | refine d5 f8 (fun K hK => ?_) | fail); simp -implicitDefEqProofs [c21, h1, h1']; first | refine hK _ ?_ | refine hK _ _ (by rfl) ?_ | fail) | fail)
        refine d7 (d6 ?_); simp -implicitDefEqProofs [g8, f9, g7] <;> try rfl
      · refine f6 Tryz.func79 rfl rfl (Nat.le_of_ble_eq_true rfl) ?_
        repeat (first | refine d4 ?_ | refine b8 ?_ | refine b7 ?_ | refine b9 ?_ | refine f5 rfl ?_ | refine d8 rfl ?_ | ((first | refine c5 (fun K hK => ?_) | refine d5 f8 (fun K hK => ?_) | fail); simp -implicitDefEqProofs [c20, c21, h1, h1']; first | refine hK _ ?_ | refine hK _ _ (by rfl) ?_ | fail) | fail)
        refine d7 (d6 ?_); simp -implicitDefEqProofs [g8, f9, g7] <;> try rfl
  obtain ⟨⟨ax, al⟩, rfl⟩ := w6 h1
  have hsz1 := Tr.size_at (x := x) (l := [Tr.mk ax al]) (i := 0) rfl
  have hof := a7x m L B hm hL hB (by omega) (.mk ax al) (((Tr.all_mk _ _ _).1 ht).2 _ (by simp)) (by omega)
  by_cases c20 : x.k = 20
  · rw [if_pos ⟨c20, h1⟩]
    rw [show [Tr.mk ax al].getD 0 z0T = .mk ax al from rfl]
    obtain ⟨⟨⟨cx, cl⟩, ⟨bx, bl⟩, p, e⟩, hG⟩ : ∃ g, ofT m L (.mk ax al) = g := ⟨_, rfl⟩
    rw [hG] at hof ⊢
    clear hG
    obtain ⟨mx, ml⟩ := m
    refine f6 Tryz.func79 rfl rfl (Nat.le_of_ble_eq_true rfl) ?_
    repeat' (first | refine d4 ?_ | refine b8 ?_ | refine b7 ?_ | refine b9 ?_ | refine f5 rfl ?_ | refine d8 rfl ?_ | ((first | refine c5 (fun K hK => ?_) | refine d5 f8 (fun K hK => ?_) | refine a9 (cp hof ?_) | refine a8 (dp hof ?_) | fail); simp -implicitDefEqProofs [c20, b1, b2, b3, b4]) | refine hK _ ?_ | refine hK _ _ (by rfl) ?_ | fail)
    refine d7 (d6 ?_); simp -implicitDefEqProofs [g8, f9, g7] <;> try rfl
  · rw [if_neg (fun h => c20 h.1)]
    clear hof
    by_cases c21 : x.k = 21
    · rw [if_pos ⟨c21, h1⟩]
      obtain ⟨mx, ml⟩ := m
      refine f6 Tryz.func79 rfl rfl (Nat.le_of_ble_eq_true rfl) ?_
      repeat (first | refine d4 ?_ | refine b8 ?_ | refine b7 ?_ | refine b9 ?_ | refine f5 rfl ?_ | refine d8 rfl ?_ | ((first | refine c5 (fun K hK => ?_) | refine d5 f8 (fun K hK => ?_) | fail); simp -implicitDefEqProofs [c21, b1, b2, b3, b4]; first | refine hK _ ?_ | refine hK _ _ (by rfl) ?_ | fail) | fail)
      refine d7 (d6 ?_); simp -implicitDefEqProofs [g8, f9, g7] <;> try rfl
    · rw [if_neg (fun h => c21 h.1)]
      obtain ⟨mx, ml⟩ := m
      refine f6 Tryz.func79 rfl rfl (Nat.le_of_ble_eq_true rfl) ?_
      repeat (first | refine d4 ?_ | refine b8 ?_ | refine b7 ?_ | refine b9 ?_ | refine f5 rfl ?_ | refine d8 rfl ?_ | ((first | refine c5 (fun K hK => ?_) | refine d5 f8 (fun K hK => ?_) | fail); simp -implicitDefEqProofs [c20, c21]; first | refine hK _ ?_ | refine hK _ _ (by rfl) ?_ | fail) | fail)
      refine d7 (d6 ?_); simp -implicitDefEqProofs [g8, f9, g7] <;> try rfl
theorem a6e (k : Int) : a2u k = (-1, 0) ∨ ∃ n b : Nat, a2u k = ((n : Int), (b : Int)) ∧ b ≤ n ∧ n ≤ 3 := by
  unfold a2u
  split
  · exact .inr ⟨1, 0, rfl, by omega, by omega⟩
  · split
    · exact .inr ⟨2, 0, rfl, by omega, by omega⟩
    · split
      · exact .inr ⟨3, 2, rfl, by omega, by omega⟩
      · split
        · exact .inr ⟨2, 1, rfl, by omega, by omega⟩
        · split
          · exact .inr ⟨3, 1, rfl, by omega, by omega⟩
          · exact .inl rfl
theorem c1f {l : List VT} {s : Nat} {p : VT → Bool} (h : ∀ j y, s ≤ j → l[j]? = some y → p y = true) : (l.drop s).all p = true := by
  rw [List.all_eq_true]
  intro y hy
  obtain ⟨i, hi⟩ := List.mem_iff_getElem?.1 hy
  rw [List.getElem?_drop] at hi
  exact h (s + i) y (by omega) hi
theorem c5u {l : List VT} {s j : Nat} {y : VT} {p : VT → Bool} (hj : s ≤ j) (hy : l[j]? = some y) (hp : p y = false) : (l.drop s).all p = false := by
  rw [List.all_eq_false]
  refine ⟨y, List.mem_iff_getElem?.2 ⟨j - s, ?_⟩, by rw [hp]; simp⟩
  rw [List.getElem?_drop, show s + (j - s) = j by omega]
  exact hy
theorem b46 (x : Lab) (l : List VT) (hsz : (Tr.mk x l).size ≤ 1000000) : Row Tryz.prog 84 [vT (.mk x l)] [] (vB (b5d x l)) [] := by
  have hlen := Tr.len_size (x := x) (l := l)
  by_cases c29 : x.k = 29
  · unfold b5d
    rw [if_pos c29]
    refine f6 Tryz.func84 rfl rfl (Nat.le_of_ble_eq_true rfl) ?_
    repeat (first | refine d4 ?_ | refine b8 ?_ | refine b7 ?_ | refine b9 ?_ | refine f5 rfl ?_ | refine d8 rfl ?_ | ((first | refine c5 (fun K hK => ?_) | refine d5 f8 (fun K hK => ?_) | fail); simp -implicitDefEqProofs [c29]; first | refine hK _ ?_ | refine hK _ _ (by rfl) ?_ | fail) | fail)
    refine d7 (d6 ?_); simp -implicitDefEqProofs [g8, f9, g7] <;> try rfl
  have hp := a6i x.k
  have hs : b5d x l = (decide ((l.length : Int) = (a2u x.k).1) && (l.drop ((a2u x.k).1 - (a2u x.k).2).toNat).all c09) := by unfold b5d; rw [if_neg c29]
  rcases a6e x.k with e | ⟨n, b, e, hb, hn⟩
  · rw [e] at hp hs
    dsimp only at hp hs
    have h1 : ¬ (l.length : Int) = -1 := by omega
    rw [decide_eq_false h1, Bool.false_and] at hs
    rw [hs]
    clear hs e
    refine f6 Tryz.func84 rfl rfl (Nat.le_of_ble_eq_true rfl) ?_
    repeat' (first | refine d4 ?_ | refine b8 ?_ | refine b7 ?_ | refine b9 ?_ | refine f5 rfl ?_ | refine d8 rfl ?_ | ((first | refine c5 (fun K hK => ?_) | refine d5 f8 (fun K hK => ?_) | refine a9 (cp hp ?_) | refine a8 (dp hp ?_) | fail); simp -implicitDefEqProofs [c29, h1]) | refine hK _ ?_ | refine hK _ _ (by rfl) ?_ | fail)
    refine d7 (d6 ?_); simp -implicitDefEqProofs [g8, f9, g7] <;> try rfl
  rw [e] at hp hs
  dsimp only at hp hs
  by_cases hl : l.length = n; rotate_left
  · have h1 : ¬ (l.length : Int) = (n : Nat) := by omega
    rw [decide_eq_false h1, Bool.false_and] at hs
    rw [hs]
    clear hs e
    refine f6 Tryz.func84 rfl rfl (Nat.le_of_ble_eq_true rfl) ?_
    repeat' (first | refine d4 ?_ | refine b8 ?_ | refine b7 ?_ | refine b9 ?_ | refine f5 rfl ?_ | refine d8 rfl ?_ | ((first | refine c5 (fun K hK => ?_) | refine d5 f8 (fun K hK => ?_) | refine a9 (cp hp ?_) | refine a8 (dp hp ?_) | fail); simp -implicitDefEqProofs [c29, h1, hl]) | refine hK _ ?_ | refine hK _ _ (by rfl) ?_ | fail)
    refine d7 (d6 ?_); simp -implicitDefEqProofs [g8, f9, g7] <;> try rfl
  subst hl
  rw [decide_eq_true rfl, Bool.true_and] at hs
  obtain ⟨s, hsb⟩ : ∃ s : Nat, l.length - b = s := ⟨_, rfl⟩
  have w1 : IntKind.i64.wrap ((l.length : Nat) - (b : Nat) : Int) = (s : Nat) := by rw [k9 _ (by omega) (by omega)]; omega
  rw [show ((l.length : Int) - (b : Int)).toNat = s by omega] at hs
  rw [hs]
  have hno := fun j y h1 h2 h3 => c5u (l := l) (s := s) (j := j) (y := y) (p := c09) h1 h2 h3
  have hyes := c1f (l := l) (s := s) (p := c09)
  obtain ⟨R, hR⟩ : ∃ R, (l.drop s).all c09 = R := ⟨_, rfl⟩
  rw [hR] at hno hyes ⊢
  clear hs e hR
  refine f6 Tryz.func84 rfl rfl (Nat.le_of_ble_eq_true rfl) ?_
  repeat' (first | refine d4 ?_ | refine b8 ?_ | refine b7 ?_ | refine b9 ?_ | refine f5 rfl ?_ | refine d8 rfl ?_ | ((first | refine c5 (fun K hK => ?_) | refine d5 f8 (fun K hK => ?_) | refine a9 (cp hp ?_) | refine a8 (dp hp ?_) | fail); simp -implicitDefEqProofs [c29, w1]) | refine hK _ ?_ | refine hK _ _ (by rfl) ?_ | fail)
  refine l7 (ι := Nat) (fun k => s7 [(1, .v (.c (.ptr 0 0))), (3, vI (l.length : Nat)), (5, vI (k : Nat))] [some (.box (ta (.mk x l)))]) (fun k => s ≤ k ∧ k ≤ l.length ∧ ∀ j y, s ≤ j → j < k → l[j]? = some y → c09 y = true) (fun k => l.length - k) s ⟨Nat.le_refl _, by omega, fun j y h1 h2 => by omega⟩ (f7 [0] (by simp -implicitDefEqProofs) (by simp -implicitDefEqProofs) (by decide) rfl (by simp)) (fun Z hI k hk => ?_)
  obtain ⟨hk0, hk, hz⟩ := hk
  by_cases hkl : k < l.length; rotate_left
  · have : k = l.length := by omega
    subst this
    have hR := hyes (fun j y h1 h2 => hz j y h1 (List.getElem?_eq_some_iff.1 h2).1 h2)
    subst hR
    clear hno hyes
    repeat (first | refine d4 ?_ | refine b8 ?_ | refine b7 ?_ | refine b9 ?_ | refine f5 rfl ?_ | refine d8 rfl ?_ | ((first | refine c5 (fun K hK => ?_) | refine d5 f8 (fun K hK => ?_) | fail); simp -implicitDefEqProofs; first | refine hK _ ?_ | refine hK _ _ (by rfl) ?_ | fail) | fail)
    refine d7 (d6 ?_); simp -implicitDefEqProofs [g8, f9, g7] <;> try rfl
  obtain ⟨⟨ax, al⟩, ha⟩ : ∃ a, l[k]? = some a := ⟨_, List.getElem?_eq_getElem hkl⟩
  have ha' := (List.getElem?_eq_some_iff.1 ha).2
  have w2 : IntKind.i64.wrap ((k : Nat) + 1 : Int) = (k : Nat) + 1 := k9 _ (by omega) (by omega)
  by_cases ak : ax.k = 29
  · clear hno hyes
    repeat (first | refine d4 ?_ | refine b8 ?_ | refine b7 ?_ | refine b9 ?_ | refine f5 rfl ?_ | refine d8 rfl ?_ | ((first | refine c5 (fun K hK => ?_) | refine d5 f8 (fun K hK => ?_) | fail); simp -implicitDefEqProofs [hkl, ha, ha', ak, w2]; first | refine hK _ ?_ | refine hK _ _ (by rfl) ?_ | fail) | fail)
    refine ⟨k + 1, ⟨by omega, by omega, fun j y h1 h2 h3 => ?_⟩, (by dsimp only; omega), ?_⟩
    · by_cases hj : j = k
      · subst hj; rw [ha] at h3; cases h3; unfold c09; simp [Tr.lab, ak]
      · exact hz j y h1 (by omega) h3
    · rw [hI]; exact f7 [0] (by simp -implicitDefEqProofs) (by simp -implicitDefEqProofs) (by decide) rfl (by simp)
  · have hR := hno k _ hk0 ha (by unfold c09; simp [Tr.lab, ak])
    subst hR
    clear hno hyes
    repeat (first | refine d4 ?_ | refine b8 ?_ | refine b7 ?_ | refine b9 ?_ | refine f5 rfl ?_ | refine d8 rfl ?_ | ((first | refine c5 (fun K hK => ?_) | refine d5 f8 (fun K hK => ?_) | fail); simp -implicitDefEqProofs [hkl, ha, ha', ak]; first | refine hK _ ?_ | refine hK _ _ (by rfl) ?_ | fail) | fail)
    refine d7 (d6 ?_); simp -implicitDefEqProofs [g8, f9, g7] <;> try rfl
structure Cn (m : VT) (L : List VT) (ret : VT) (B sz : Nat) : Prop where
  hm : a0d B m
  hL : ∀ t ∈ L, a0d B t
  len : L.length + sz ≤ 400000
  le : B + sz ≤ 400000
  ret : a0d 400000 ret
theorem Cn.less {m : VT} {L : List VT} {ret : VT} {B sz sz' : Nat} (h : Cn m L ret B sz) (hs : sz' ≤ sz) : Cn m L ret B sz' := ⟨h.hm, h.hL, by have := h.len; omega, by have := h.le; omega, h.ret⟩
theorem c5k {m : VT} {L : List VT} {ret : VT} {B sz : Nat} {t : VT} (h : Cn m L ret B (t.size + sz)) (ht : t7 t) : Cn m (c3d m L t) ret (B + t.size) sz := by
  have hlen := h.len
  have hle := h.le
  have hL : ∀ y ∈ L, a0d (B + t.size) y := fun y hy => (h.hL y hy).le (by omega)
  obtain ⟨x, l⟩ := t
  have hp := Tr.size_pos (Tr.mk x l)
  unfold c3d
  rw [Tr.lab, Tr.kids]
  have hin : ∀ z, l.length = 1 → a0d (B + (Tr.mk x l).size) z → Cn m (L ++ [z]) ret (B + (Tr.mk x l).size) sz := fun z _ hz => ⟨h.hm.le (by omega), fun y hy => by
    rcases List.mem_append.1 hy with hy | hy
    · exact hL y hy
    · simp at hy; subst hy; exact hz, by simp; omega, by omega, h.ret⟩
  split
  · rename_i hc
    obtain ⟨a, rfl⟩ := w6 hc.2
    have hs := Tr.size_at (x := x) (l := [a]) (i := 0) rfl
    have := (a9l h.hm (by have := h.hm.2; omega) h.hL a (((Tr.all_mk _ _ _).1 ht).2 a (by simp)) (by omega)).ty
    exact hin _ hc.2 (this.le (by omega))
  · split
    · rename_i hc
      obtain ⟨a, rfl⟩ := w6 hc.2
      have hs := Tr.size_at (x := x) (l := [a]) (i := 0) rfl
      refine hin _ hc.2 ⟨((Tr.all_mk _ _ _).1 ht).2 a (by simp), ?_⟩
      show a.size ≤ _
      omega
    · exact ⟨h.hm.le (by omega), hL, by omega, by omega, h.ret⟩
def StR (m ret y : VT) : Prop := ∀ L B, Cn m L ret B y.size → Row Tryz.prog 78 [vT m, vLs L, vT ret, vT y] [] (vGr (a3n m ret y L)) []
def BlR (m ret y : VT) : Prop := ∀ L B, Cn m L ret B y.size → Row Tryz.prog 69 [vT m, vLs L, vT ret, vT y] [] (vGr (a80 m ret y.lab y.kids L [])) []
theorem b1w (m ret : VT) (x : Lab) (l : List VT) (ht : t7 (.mk x l)) (ih : ∀ y ∈ l, StR m ret y) : BlR m ret (.mk x l) := by
  intro L B hc
  have hlen := Tr.len_size (x := x) (l := l)
  have hcl := hc.len
  have hcB := hc.le
  have hsum : (l.map Tr.size).sum + 1 = (Tr.mk x l).size := by rw [Tr.size_mk]; omega
  rw [Tr.lab, Tr.kids]
  obtain ⟨R, hR⟩ : ∃ R, a80 m ret x l L [] = R := ⟨_, rfl⟩
  rw [hR]
  have hc0 : Cn m L ret B (l.map Tr.size).sum := hc.less (by omega)
  clear hc
  have hbr := fun (L : List VT) (B sz : Nat) (h : Cn m L ret B sz) (t : VT) (ht : t7 t) (hs : t.size ≤ 400000) => b1s m L B h.hm h.hL (by have := h.le; omega) (by have := h.len; omega) t ht hs
  obtain ⟨⟨mx, ml⟩, rfl⟩ : ∃ q, m = q := ⟨_, rfl⟩
  obtain ⟨⟨rx, rl⟩, rfl⟩ : ∃ q, ret = q := ⟨_, rfl⟩
  refine f6 Tryz.func69 rfl rfl (Nat.le_of_ble_eq_true rfl) ?_
  repeat (first | refine d4 ?_ | refine b8 ?_ | refine b7 ?_ | refine b9 ?_ | refine f5 rfl ?_ | refine d8 rfl ?_ | ((first | refine c5 (fun K hK => ?_) | refine d5 f8 (fun K hK => ?_) | fail); simp -implicitDefEqProofs; first | refine hK _ ?_ | refine hK _ _ (by rfl) ?_ | fail) | fail)
  refine l7 (ι := Nat × List VT × List VT) (fun i => s7 [(1, vLs i.2.1), (4, .v (.c (.ptr 0 0))), (6, .v (.c (.ptr 1 0))), (7, .v (.c (.ptr 2 0))), (8, .v (.c (.ptr 3 0))), (9, .v (.c (.ptr 4 0))), (10, vI (i.1 : Nat))] [some (.box (ta (.mk mx ml))), some (.box (ta (.mk rx rl))), some (.box (ta (.mk x l))), some (.box (ta z0T ++ [.pv (I 0), .pv (I 0)])), some (.box [.pv (I x.k), .pv (I x.n), .pv (Sx ⟨#[]⟩), .row 5 6 (i.2.2.map tc), .pv (I 0), .pv (I 0)]), some (.row 25 6)]) (fun i => i.1 ≤ l.length ∧ i.2.2.length = i.1 ∧ a80 (.mk mx ml) (.mk rx rl) x (l.drop i.1) i.2.1 i.2.2 = R ∧ ∃ C, Cn (.mk mx ml) i.2.1 (.mk rx rl) C ((l.drop i.1).map Tr.size).sum) (fun i => l.length - i.1) (0, L, []) ⟨Nat.zero_le _, rfl, hR, B, hc0⟩ (f7 [0, 1, 2, 3, 10, 8] (by simp -implicitDefEqProofs) (by simp -implicitDefEqProofs) (by decide) rfl (by simp)) (fun Z hI i hi => ?_)
  obtain ⟨k, LK, AK⟩ := i
  obtain ⟨hk, hal, hz, C, hC⟩ := hi
  dsimp only at hk hal hz hC ⊢
  by_cases hkl : k < l.length; rotate_left
  · have : k = l.length := by omega
    subst this
    rw [List.drop_length] at hz
    unfold a80 at hz
    subst hz
    repeat (first | refine d4 ?_ | refine b8 ?_ | refine b7 ?_ | refine b9 ?_ | refine f5 rfl ?_ | refine d8 rfl ?_ | ((first | refine c5 (fun K hK => ?_) | refine d5 f8 (fun K hK => ?_) | fail); simp -implicitDefEqProofs; first | refine hK _ ?_ | refine hK _ _ (by rfl) ?_ | fail) | fail)
    refine d7 (d6 ?_); simp -implicitDefEqProofs [g8, f9, g7] <;> try rfl
  obtain ⟨⟨ax, al⟩, ha⟩ : ∃ a, l[k]? = some a := ⟨_, List.getElem?_eq_getElem hkl⟩
  have ha' := (List.getElem?_eq_some_iff.1 ha).2
  have hmem := List.mem_of_getElem? ha
  have hin := ((Tr.all_mk _ x l).1 ht).2 _ hmem
  have hsz1 := Tr.size_at (x := x) ha
  have hd : l.drop k = .mk ax al :: l.drop (k + 1) := by rw [List.drop_eq_getElem_cons hkl, ha']
  rw [hd] at hz hC
  rw [List.map_cons, List.sum_cons] at hC
  have hc := ih _ hmem LK C (hC.less (by omega))
  have hb := hbr LK C _ hC (.mk ax al) hin (by have := hC.le; omega)
  have hn := c5k hC hin
  have w2 : IntKind.i64.wrap ((k : Nat) + 1 : Int) = (k : Nat) + 1 := k9 _ (by omega) (by omega)
  have b1 : (k + 1) * 72 ≤ 140737488355328 := by omega
  have b2 : k + 1 ≤ 140737488355328 := by omega
  unfold a80 at hz
  obtain ⟨⟨⟨bx, bl⟩, gp, ge⟩, hG⟩ : ∃ g, a3n (.mk mx ml) (.mk rx rl) (.mk ax al) LK = g := ⟨_, rfl⟩
  rw [hG] at hc hz
  obtain ⟨LN, hLN⟩ : ∃ LN, c3d (.mk mx ml) LK (.mk ax al) = LN := ⟨_, rfl⟩
  rw [hLN] at hb hz hn
  clear hG hLN hd hin hC ih hbr
  by_cases he : ge = 0
  · subst he
    rw [if_pos rfl] at hz
    repeat' (first | refine d4 ?_ | refine b8 ?_ | refine b7 ?_ | refine b9 ?_ | refine f5 rfl ?_ | refine d8 rfl ?_ | ((first | refine c5 (fun K hK => ?_) | refine d5 f8 (fun K hK => ?_) | refine a9 (cp hc ?_) | refine a8 (dp hc ?_) | refine a9 (cp hb ?_) | refine a8 (dp hb ?_) | fail); simp -implicitDefEqProofs [hkl, ha, ha', hal, b1, b2, w2]) | refine hK _ ?_ | refine hK _ _ (by rfl) ?_ | fail)
    refine ⟨(k + 1, LN, AK ++ [.mk bx bl]), ⟨by omega, by simp [hal], hz, _, hn⟩, (by dsimp only; omega), ?_⟩
    rw [hI]; exact f7 [0, 1, 2, 3, 4, 107] (by simp -implicitDefEqProofs) (by simp -implicitDefEqProofs) (by decide) rfl (by simp)
  · rw [if_neg he] at hz
    subst hz
    repeat' (first | refine d4 ?_ | refine b8 ?_ | refine b7 ?_ | refine b9 ?_ | refine f5 rfl ?_ | refine d8 rfl ?_ | ((first | refine c5 (fun K hK => ?_) | refine d5 f8 (fun K hK => ?_) | refine a9 (cp hc ?_) | refine a8 (dp hc ?_) | fail); simp -implicitDefEqProofs [hkl, ha, ha', he]) | refine hK _ ?_ | refine hK _ _ (by rfl) ?_ | fail)
    refine d7 (d6 ?_); simp -implicitDefEqProofs [g8, f9, g7] <;> try rfl
end Go.Proofs.YthkfdheoakbfnaaGreat.am
end
