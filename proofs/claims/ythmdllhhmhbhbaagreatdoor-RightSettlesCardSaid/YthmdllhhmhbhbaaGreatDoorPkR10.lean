import Derived.Test.YthmdllhhmhbhbaaGreatDoorPkR9
import Derived.Test.YthmdllhhmhbhbaaGreatDoorPkR5
import Derived.Test.YthmdllhhmhbhbaaGreatDoorPkR8
import Derived.Test.YthmdllhhmhbhbaaGreatDoorPkR4
set_option maxRecDepth 100000
set_option maxHeartbeats 4000000
section
namespace Go.Proofs.YthmdllhhmhbhbaaGreatDoor.am
open Go.ChangeShapes Go.WideShapes Go.ChangeAt Go.RowKit
open vt
set_option linter.unusedVariables false
set_option linter.unusedSimpArgs false
theorem b3f (t : VT) : (i7 t).lab.k = t.lab.k := by obtain ⟨x, l⟩ := t; rw [n9]; rfl
theorem nl_n (t : VT) : (i7 t).lab.n = t.lab.n := by obtain ⟨x, l⟩ := t; rw [n9]; rfl
theorem r7 (t : VT) : (i7 t).kids = t.kids.map i7 := by obtain ⟨x, l⟩ := t; rw [n9]; rfl
theorem c49 : i7 z0T = z0T := by rw [n9]; rfl
theorem a78 (k : Int) : i7 (tyT k) = tyT k := by unfold tyT; rw [n9]; rfl
theorem y6 (l : List VT) (i : Nat) : (l.map i7).getD i z0T = i7 (l.getD i z0T) := by
  by_cases h : i < l.length
  · simp [List.getD, h]
  · simp [List.getD, h, c49]
theorem a2b (t : VT) (k : Int) : isT (i7 t) k = isT t k := by unfold isT; rw [b3f, r7, List.length_map]
theorem b3g (t : VT) : a59 (i7 t) = a59 t ∧ i7 (a59 t) = a59 t := by
  refine ⟨by unfold a59; rw [b3f], ?_⟩
  rcases a61 t with e | e | e <;> rw [e]
  · exact a78 1
  · exact a78 2
  · exact c49
theorem a1f (t : VT) : a0r (i7 t) = i7 t ∧ i7 (a0r t) = i7 t := by
  induction t using Tr.ind with
  | h x l ih =>
  rw [n9, a4u, a4u, n9, List.map_map, List.map_map]
  constructor
  · congr 1
    exact List.map_congr_left (fun y hy => (ih y hy).1)
  · congr 1
    exact List.map_congr_left (fun y hy => (ih y hy).2)
theorem b41 (t : VT) : i7 (i7 t) = i7 t := by
  induction t using Tr.ind with
  | h x l ih =>
  rw [n9, n9, List.map_map]
  congr 1
  exact List.map_congr_left (fun y hy => ih y hy)
theorem c45 (a : VT) : ∀ b : VT, same a b = true → i7 a = i7 b := by
  induction a using Tr.ind with
  | h x l ih =>
  intro b h
  obtain ⟨y, k⟩ := b
  unfold same at h
  rw [b65, Bool.and_eq_true, Bool.and_eq_true] at h
  obtain ⟨⟨h1, h2⟩, h3⟩ := h
  have hl : l.length = k.length := of_decide_eq_true h2
  unfold pS at h1
  simp only [Bool.and_eq_true, decide_eq_true_eq] at h1
  obtain ⟨⟨e1, e2⟩, _⟩ := h1
  rw [n9, n9, e1, e2]
  congr 1
  refine List.ext_getElem? (fun i => ?_)
  rw [List.getElem?_map, List.getElem?_map]
  by_cases hi : i < l.length
  · obtain ⟨u, hu⟩ : ∃ u, l[i]? = some u := ⟨_, List.getElem?_eq_getElem hi⟩
    obtain ⟨v, hv⟩ : ∃ v, k[i]? = some v := ⟨_, List.getElem?_eq_getElem (by omega)⟩
    rw [hu, hv, Option.map_some, Option.map_some]
    congr 1
    unfold a81 at h3
    rw [List.all_eq_true] at h3
    refine ih u (List.mem_of_getElem? hu) v (h3 (u, v) ?_)
    refine List.mem_of_getElem? (i := i) ?_
    rw [List.getElem?_take_of_lt hi]
    exact List.getElem?_zip_eq_some.2 ⟨hu, hv⟩
  · rw [List.getElem?_eq_none (by omega), List.getElem?_eq_none (by omega)]
theorem a8h {a b : VT} (h : same a b = true) : same (i7 a) (i7 b) = true := by
  rw [c45 a b h]; exact a5p _
theorem a25 (q : VT) : r9 (i7 q) = r9 q := by unfold r9; rw [b3f, r7, List.length_map]
theorem nl_ptD (q : VT) : ptD (i7 q) = (ptD q).map i7 := by
  unfold ptD
  rw [a25]
  by_cases h : r9 q = true
  · rw [if_pos h, if_pos h, r7, y6]; rfl
  · rw [if_neg h, if_neg h]; rfl
structure Sdd (d e : VT) : Prop where
  k : e.lab.k = d.lab.k
  pl : ¬ d.lab.k = 33 → e = i7 d
  fn : d.lab.k = 33 → ∃ dx ex a b c c', d = .mk dx [a, b, c] ∧ e = .mk ex [i7 a, i7 b, c']
structure Sd (m s : VT) : Prop where
  len : s.kids.length = m.kids.length
  at' : ∀ (i : Nat) d, m.kids[i]? = some d → ∃ e, s.kids[i]? = some e ∧ Sdd d e
theorem Sdd.dcl {d e : VT} (h : Sdd d e) {k : Int} (hk : k = 8 ∨ k = 9 ∨ k = 15 ∨ k = 16) : b0u e k = b0u d k := by
  by_cases h33 : d.lab.k = 33
  · obtain ⟨dx, ex, a, b, c, c', rfl, rfl⟩ := h.fn h33
    have e1 := h.k
    have d1 : dx.k = 33 := h33
    have e1 : ex.k = 33 := e1.trans d1
    unfold b0u
    simp only [Tr.lab, Tr.kids, d1, e1]
    rcases hk with rfl | rfl | rfl | rfl <;> simp
  · rw [h.pl h33]
    unfold b0u
    rw [b3f, r7, List.length_map, y6, (b3g _).1, List.all_map, show (r9 ∘ i7) = r9 from funext a25]
section
variable {m s : VT} (M : Sd m s)
include M
theorem Sd.recE (n : Int) : a4l s n = (a4l m n).map i7 := by
  unfold a4l
  by_cases h0 : 0 ≤ n
  · rw [if_pos h0, if_pos h0]
    cases hd : m.kids[n.toNat]? with
    | none =>
      have : m.kids.length ≤ n.toNat := by simpa using hd
      rw [List.getElem?_eq_none (by rw [M.len]; omega)]; rfl
    | some d =>
      obtain ⟨e, he, hs⟩ := M.at' _ d hd
      rw [he]
      dsimp only
      rw [hs.k]
      by_cases h30 : d.lab.k = 30
      · rw [if_pos h30, if_pos h30, hs.pl (by omega)]; rfl
      · rw [if_neg h30, if_neg h30]; rfl
  · rw [if_neg h0, if_neg h0]; rfl
theorem Sd.wth : ∀ (f : Nat) (t : VT) (dq : Nat), a4o s f (i7 t) dq = a4o m f t dq
  | 0, t, dq => rfl
  | f + 1, t, dq => by
    unfold a4o
    rw [b3f, r7, List.length_map, nl_n, y6, Sd.wth f, M.recE, M.len]
    cases a4l m t.lab.n with
    | none => rfl
    | some d =>
      dsimp only [Option.map_some]
      have e : (i7 d).kids.map (a5m s f dq) = d.kids.map (a5m m f dq) := by
        rw [r7, List.map_map]
        refine List.map_congr_left (fun q hq => ?_)
        show a5m s f dq (i7 q) = a5m m f dq q
        unfold a5m
        rw [nl_ptD]
        cases ptD q with
        | none => rfl
        | some u => exact Sd.wth f u (dq + 1)
      have e' : b2d ((i7 d).kids.map (a5m s f dq)) 0 = b2d (d.kids.map (a5m m f dq)) 0 := by rw [e]
      split
      · rfl
      · split
        · rfl
        · split
          · split
            · split
              · rfl
              · exact e'
            · rfl
          · rfl
end
theorem a3f (m : VT) (S : Nat) (hS : ∀ d ∈ m.kids, d.size ≤ S) : ∀ (f g : Nat) (t : VT) (dq : Nat), dq ≤ m.kids.length → (m.kids.length - dq) * S + t.size ≤ f → (m.kids.length - dq) * S + t.size ≤ g → a4o m f t dq = a4o m g t dq
  | 0, g, t, dq, _, h, _ => by have := Tr.size_pos t; omega
  | f + 1, 0, t, dq, _, _, h => by have := Tr.size_pos t; omega
  | f + 1, g + 1, t, dq, hq, hf, hg => by
    unfold a4o
    by_cases h3 : t.lab.k = 3 ∧ t.kids.length = 1
    · have hk : (t.kids.getD 0 z0T).size < t.size := by
        obtain ⟨x, l⟩ := t
        obtain ⟨a, rfl⟩ := s9 h3.2
        exact Tr.size_at (x := x) (l := [a]) (i := 0) rfl
      rw [a3f m S hS f g _ dq hq (by omega) (by omega)]
      have h4 : ¬ t.lab.k = 4 := by omega
      simp only [if_neg h4]
    · by_cases h4 : t.lab.k = 4
      · have h3' : ¬ t.lab.k = 3 := by omega
        simp only [if_neg h3']
        cases hr : a4l m t.lab.n with
        | none => rfl
        | some d =>
          dsimp only
          by_cases hd : m.kids.length ≤ dq
          · rw [if_pos hd, if_pos hd]
          · rw [if_neg hd, if_neg hd]
            have hdm := b3n hr
            have e : d.kids.map (a5m m f dq) = d.kids.map (a5m m g dq) := by
              refine List.map_congr_left (fun q hq' => ?_)
              unfold a5m
              cases hu : ptD q with
              | none => rfl
              | some u =>
                dsimp only
                have h1 : u.size ≤ q.size := by
                  unfold ptD at hu
                  split at hu
                  · cases hu; exact a9s 0
                  · cases hu
                have h2 := p8 hq'
                have h5 := hS d hdm
                have h6 : (m.kids.length - dq) * S = (m.kids.length - (dq + 1)) * S + S := by
                  rw [show m.kids.length - dq = (m.kids.length - (dq + 1)) + 1 by omega, Nat.add_mul]; omega
                have h7 := Tr.size_pos t
                have h8 : u.size < d.size := by
                  have e := a1e (x := d.lab) (l := d.kids) hq'
                  have e' : Tr.mk d.lab d.kids = d := by cases d; rfl
                  rw [e'] at e; omega
                exact a3f m S hS f g u (dq + 1) (by omega) (by omega) (by omega)
            have e' : b2d (d.kids.map (a5m m f dq)) 0 = b2d (d.kids.map (a5m m g dq)) 0 := by rw [e]
            split
            · rfl
            · split
              · exact e'
              · rfl
      · by_cases h3' : t.lab.k = 3
        · have hl : ¬ (t.kids.length = 1 ∧ 1 ≤ t.lab.n ∧ t.lab.n ≤ 16) := fun h => h3 ⟨h3', h.1⟩
          simp only [if_neg hl, if_neg h4]
        · simp only [if_neg h3', if_neg h4]
section
variable {m s : VT} (M : Sd m s)
include M
theorem Sd.cel (t : VT) : a1j s (i7 t) = a1j m t := by
  unfold a1j
  have h := M.wth (m.kids.length * m.size + t.size + (s.kids.length * s.size + (i7 t).size)) t 0
  rw [a3f s s.size (fun d hd => p8 hd) _ (m.kids.length * m.size + t.size + (s.kids.length * s.size + (i7 t).size)) (i7 t) 0 (Nat.zero_le _) (by simp) (by simp), h,
    a3f m m.size (fun d hd => p8 hd) _ (m.kids.length * m.size + t.size) t 0 (Nat.zero_le _) (by simp) (by simp)]
theorem Sd.fld (n : Int) : fldA s n = (fldA m n).map i7 := by
  unfold vt.fldA
  by_cases h0 : n < 0
  · rw [if_pos h0, if_pos h0]; rfl
  rw [if_neg h0, if_neg h0]
  cases hd : m.kids[n.toNat / 64]? with
  | none =>
    have : m.kids.length ≤ n.toNat / 64 := by simpa using hd
    rw [List.getElem?_eq_none (by rw [M.len]; omega)]; rfl
  | some d =>
    obtain ⟨e, he, hs⟩ := M.at' _ d hd
    rw [he]
    dsimp only
    rw [hs.k]
    by_cases h30 : d.lab.k = 30
    · rw [if_pos h30, if_pos h30, hs.pl (by omega), r7, List.getElem?_map]
      cases d.kids[n.toNat % 64]? with
      | none => rfl
      | some q =>
        show (if r9 (i7 q) = true then _ else _) = _
        dsimp only [Option.map_some]
        rw [a25]
        by_cases hq : r9 q = true
        · rw [if_pos hq, if_pos hq, r7, List.getElem?_map]
        · rw [if_neg hq, if_neg hq]; rfl
    · rw [if_neg h30, if_neg h30]; rfl
theorem Sd.knw {n : Nat} {x : Lab} {k N : Int} (hk : k = x.k) (hn : N = x.n) : a60 s n ⟨k, N, ⟨#[]⟩, 0, 0⟩ = a60 m n x := by
  subst hk hn
  unfold a60
  dsimp only
  by_cases h7 : x.k = 7
  · rw [if_pos h7, if_pos h7]
  rw [if_neg h7, if_neg h7, M.len]
  by_cases hc : x.k = 8 ∨ x.k = 9 ∨ x.k = 15 ∨ x.k = 16
  · rw [if_pos hc, if_pos hc]
    by_cases hr : 0 ≤ x.n ∧ x.n < m.kids.length
    · rw [if_pos hr, if_pos hr]
      obtain ⟨d, hd⟩ : ∃ d, m.kids[x.n.toNat]? = some d := ⟨_, List.getElem?_eq_getElem (by omega)⟩
      obtain ⟨e, he, hs⟩ := M.at' _ d hd
      rw [List.getD_eq_getElem?_getD, List.getD_eq_getElem?_getD, hd, he]
      exact hs.dcl hc
    · rw [if_neg hr, if_neg hr]
  · rw [if_neg hc, if_neg hc]
end
theorem b1m : ∀ (D A : List VT), a9l D A = true → a9l (D.map i7) (A.map i7) = true
  | [], [], _ => rfl
  | d :: D, a :: A, h => by
    unfold a9l at h
    rw [Bool.and_eq_true, Bool.and_eq_true] at h
    obtain ⟨⟨h1, h2⟩, h3⟩ := h
    rw [List.map_cons, List.map_cons]
    unfold a9l
    rw [b1m D A h3, r7, List.length_map, y6, h1, a8h h2]
    rfl
  | [], _ :: _, h => by cases h
  | _ :: _, [], h => by cases h
end Go.Proofs.YthmdllhhmhbhbaaGreatDoor.am
end
section
namespace Go.Proofs.YthmdllhhmhbhbaaGreatDoor.am
open Go.ChangeShapes Go.WideShapes Go.ChangeAt Go.RowKit
open vt
set_option linter.unusedVariables false
set_option linter.unusedSimpArgs false
theorem a77 {m : VT} {n : Nat} {x : Lab} (h : a60 m n x = true) (hc : x.k = 8 ∨ x.k = 9 ∨ x.k = 15 ∨ x.k = 16) : 0 ≤ x.n ∧ ∃ d, m.kids[x.n.toNat]? = some d ∧ m.kids.getD x.n.toNat z0T = d ∧ b0u d x.k = true := by
  unfold a60 at h
  rw [if_neg (by omega), if_pos hc] at h
  split at h
  · rename_i hr
    have hl : x.n.toNat < m.kids.length := by omega
    refine ⟨hr.1, m.kids[x.n.toNat], List.getElem?_eq_getElem hl, by simp [List.getD, hl], ?_⟩
    rw [show m.kids.getD x.n.toNat z0T = m.kids[x.n.toNat] by simp [List.getD, hl]] at h
    exact h
  · cases h
theorem c2t (op : Int) (a b : VT) : b32 op (i7 a) (i7 b) = b32 op a b ∧ i7 (b32 op a b).1 = (b32 op a b).1 := by
  refine ⟨by unfold b32; simp only [a2b], ?_⟩
  unfold b32
  split
  · exact a78 2
  · split
    · exact a78 2
    · split
      · exact a78 2
      · exact a78 1
section
variable {m s : VT} (M : Sd m s)
include M
theorem Sd.decl {i : Nat} {d : VT} (hd : m.kids[i]? = some d) : ∃ e, s.kids.getD i z0T = e ∧ Sdd d e := by
  obtain ⟨e, he, hs⟩ := M.at' i d hd
  exact ⟨e, by rw [List.getD_eq_getElem?_getD, he]; rfl, hs⟩
theorem Sd.rul {L : List VT} {x : Lab} {p : List VT} (hk : a60 m L.length x = true) (hok : (a0d m L x p).ok = true) :
    (a0d s (L.map i7) ⟨x.k, (a0d m L x p).n, ⟨#[]⟩, 0, 0⟩ (p.map i7)).ty = i7 (a0d m L x p).ty ∧ (a0d s (L.map i7) ⟨x.k, (a0d m L x p).n, ⟨#[]⟩, 0, 0⟩ (p.map i7)).ok = true ∧ (a0d s (L.map i7) ⟨x.k, (a0d m L x p).n, ⟨#[]⟩, 0, 0⟩ (p.map i7)).n = (a0d m L x p).n := by
  by_cases h13 : x.k = 13
  · rw [b79 m L x p h13] at hok ⊢
    rw [b79 s _ ⟨x.k, (b4o m x (p.getD 0 z0T)).n, ⟨#[]⟩, 0, 0⟩ _ h13, y6]
    obtain ⟨a, ha⟩ : ∃ a, p.getD 0 z0T = a := ⟨_, rfl⟩
    rw [ha] at hok ⊢
    unfold b4o at hok ⊢
    rw [b3f, r7, List.length_map, nl_n]
    by_cases hc : a.lab.k = 4 ∧ a.kids.length = 0
    · rw [if_pos hc] at hok ⊢
      rw [if_pos hc]
      cases hf : c2m m x a.lab.n with
      | none => rw [hf] at hok; cases hok
      | some k =>
        dsimp only
        have hn : a3h s ⟨x.k, a3h m x a.lab.n, ⟨#[]⟩, 0, 0⟩ a.lab.n = a3h m x a.lab.n := b7e s x.k _ _
        have hp : c2m s ⟨x.k, a3h m x a.lab.n, ⟨#[]⟩, 0, 0⟩ a.lab.n = some (i7 k) := by
          unfold c2m at hf ⊢
          rw [hn, M.fld, Option.isSome_map]
          split at hf
          · rename_i hq
            rw [if_pos hq, hf]; rfl
          · cases hf
        rw [hp]
        dsimp only
        exact ⟨by rw [(a1f k).1, (a1f k).2], rfl, hn⟩
    · rw [if_neg hc] at hok; cases hok
  have hn : (a0d m L x p).n = x.n := b8b m L x p h13
  have hn' : (a0d s (L.map i7) ⟨x.k, x.n, ⟨#[]⟩, 0, 0⟩ (p.map i7)).n = x.n := b8b s _ ⟨x.k, x.n, ⟨#[]⟩, 0, 0⟩ _ h13
  rw [hn]
  suffices h : (a0d s (L.map i7) ⟨x.k, x.n, ⟨#[]⟩, 0, 0⟩ (p.map i7)).ty = i7 (a0d m L x p).ty ∧ (a0d s (L.map i7) ⟨x.k, x.n, ⟨#[]⟩, 0, 0⟩ (p.map i7)).ok = true from ⟨h.1, h.2, hn'⟩
  unfold a0d at hok ⊢
  dsimp only
  rw [y6 p 0, y6 p 1]
  by_cases c7 : x.k = 7
  · rw [if_pos c7, if_pos c7, List.length_map, y6]
    exact ⟨by rw [(a1f _).1, (a1f _).2], rfl⟩
  rw [if_neg c7] at hok ⊢
  rw [if_neg c7]
  by_cases c8 : x.k = 8
  · obtain ⟨_, d, hd, hg, hq⟩ := a77 hk (.inl c8)
    obtain ⟨e, he, hs⟩ := M.decl hd
    have h31 : d.lab.k = 31 := by
      rw [c8] at hq; unfold b0u at hq; rw [if_pos rfl, Bool.and_eq_true, decide_eq_true_eq] at hq; exact hq.1
    rw [if_pos c8, if_pos c8, he, hg, hs.pl (by omega), r7, y6, (b3g _).1, (b3g _).2]
    exact ⟨rfl, rfl⟩
  rw [if_neg c8] at hok ⊢
  rw [if_neg c8]
  by_cases c9 : x.k = 9
  · obtain ⟨_, d, hd, hg, hq⟩ := a77 hk (.inr (.inl c9))
    obtain ⟨e, he, hs⟩ := M.decl hd
    have h32 : d.lab.k = 32 := by
      rw [c9] at hq; unfold b0u at hq; rw [if_neg (by decide), if_pos rfl, Bool.and_eq_true, decide_eq_true_eq] at hq; exact hq.1
    rw [if_pos c9, if_pos c9, he, hg, hs.pl (by omega), r7, y6]
    exact ⟨by rw [(a1f _).1, (a1f _).2], rfl⟩
  rw [if_neg c9] at hok ⊢
  rw [if_neg c9]
  by_cases c10 : x.k = 10
  · rw [if_pos c10] at hok ⊢
    rw [if_pos c10, (c2t _ _ _).1]
    exact ⟨((c2t _ _ _).2).symm, hok⟩
  rw [if_neg c10] at hok ⊢
  rw [if_neg c10]
  by_cases c11 : x.k = 11
  · rw [if_pos c11] at hok ⊢
    rw [if_pos c11]
    refine ⟨rfl, ?_⟩
    unfold oneB at hok ⊢
    rw [a2b, a2b]; exact hok
  rw [if_neg c11] at hok ⊢
  rw [if_neg c11]
  by_cases c12 : x.k = 12
  · rw [if_pos c12] at hok ⊢
    rw [if_pos c12]
    have e : a58 (i7 (p.getD 0 z0T)) (i7 (p.getD 1 z0T)) = (a58 (p.getD 0 z0T) (p.getD 1 z0T)).map i7 := by
      unfold a58
      rw [b3f, r7, List.length_map, a2b, y6]
      split <;> rfl
    rw [e, Option.isSome_map]
    dsimp only at hok
    refine ⟨?_, hok⟩
    show (Option.map i7 (a58 (p.getD 0 z0T) (p.getD 1 z0T))).getD z0T = i7 ((a58 (p.getD 0 z0T) (p.getD 1 z0T)).getD z0T)
    cases a58 (p.getD 0 z0T) (p.getD 1 z0T) with
    | none => exact c49.symm
    | some t => rfl
  rw [if_neg c12, if_neg h13] at hok ⊢
  rw [if_neg c12, if_neg h13]
  by_cases c14 : x.k = 14
  · rw [if_pos c14] at hok ⊢
    rw [if_pos c14]
    unfold b4y at hok ⊢
    rw [y6, List.length_map, ← List.map_drop, List.all_map]
    split at hok
    · rename_i ha
      have ha' : ((p.drop 1).all ((fun a => same (i7 (p.getD 0 z0T)) a) ∘ i7)) = true := by
        rw [List.all_eq_true] at ha ⊢
        exact fun y hy => a8h (ha y hy)
      rw [if_pos ha', if_pos ha]
      split at hok
      · cases hok
      · rename_i hc
        have e : (.mk ⟨3, p.length, ⟨#[]⟩, 0, 0⟩ [i7 (p.getD 0 z0T)] : VT) = i7 (.mk ⟨3, p.length, ⟨#[]⟩, 0, 0⟩ [p.getD 0 z0T]) := by rw [n9]; rfl
        rw [e, M.cel, if_neg hc, if_neg hc]
        exact ⟨rfl, rfl⟩
    · cases hok
  rw [if_neg c14] at hok ⊢
  rw [if_neg c14]
  by_cases c15 : x.k = 15
  · obtain ⟨_, d, hd, hg, hq⟩ := a77 hk (.inr (.inr (.inl c15)))
    obtain ⟨e, he, hs⟩ := M.decl hd
    have h30 : d.lab.k = 30 := by
      rw [c15] at hq; unfold b0u at hq; rw [if_neg (by decide), if_neg (by decide), if_neg (by decide), Bool.and_eq_true, Bool.and_eq_true, decide_eq_true_eq] at hq; exact hq.2.1
    rw [if_pos c15] at hok ⊢
    rw [if_pos c15]
    rw [hg] at hok
    rw [he, hs.pl (by omega), r7]
    exact ⟨by rw [n9]; rfl, b1m _ _ hok⟩
  rw [if_neg c15] at hok ⊢
  rw [if_neg c15]
  by_cases c16 : x.k = 16
  · obtain ⟨_, d, hd, hg, hq⟩ := a77 hk (.inr (.inr (.inr c16)))
    obtain ⟨e, he, hs⟩ := M.decl hd
    have h33 : d.lab.k = 33 := by
      rw [c16] at hq; unfold b0u at hq; rw [if_neg (by decide), if_neg (by decide), if_pos rfl, Bool.and_eq_true, decide_eq_true_eq] at hq; exact hq.1
    rw [if_pos c16] at hok ⊢
    rw [if_pos c16]
    rw [hg] at hok
    rw [he, hg]
    obtain ⟨dx, ex, a, b, c, c', rfl, rfl⟩ := hs.fn h33
    refine ⟨?_, ?_⟩
    · show a0r (i7 b) = i7 (a0r b)
      rw [(a1f _).1, (a1f _).2]
    · show a9l (i7 a).kids (p.map i7) = true
      rw [r7]
      exact b1m _ _ hok
  rw [if_neg c16] at hok ⊢
  rw [if_neg c16]
  by_cases c18 : x.k = 18
  · rw [if_pos c18, if_pos c18]
    exact ⟨(a78 1).symm, rfl⟩
  · rw [if_neg c18, if_neg c18]
    exact ⟨by rw [(b3g _).2]; unfold a59; rfl, rfl⟩
theorem Sd.ofE {L : List VT} (t : VT) : (ofP m L t).er = 0 → ofP s (L.map i7) (ofP m L t).fo = ⟨i7 (ofP m L t).ty, (ofP m L t).fo, 0, 0⟩ := by
  induction t using Tr.ind with
  | h x l ih =>
  intro h
  obtain ⟨hs, h17, hk, he, hok⟩ := a8b h
  rw [a1q hs h17 hk he hok]
  obtain ⟨p, hp⟩ : ∃ p, (l.map fun y => (ofP m L y).ty) = p := ⟨_, rfl⟩
  rw [hp] at hok ⊢
  obtain ⟨r1, r2, r3⟩ := M.rul hk hok
  have hp' : ((l.map fun y => (ofP m L y).fo).map fun y => (ofP s (L.map i7) y).ty) = p.map i7 := by
    rw [← hp, List.map_map, List.map_map]
    exact List.map_congr_left (fun y hy => by show (ofP s (L.map i7) (ofP m L y).fo).ty = _; rw [ih y hy (he y hy)]; rfl)
  have hf' : ((l.map fun y => (ofP m L y).fo).map fun y => (ofP s (L.map i7) y).fo) = l.map fun y => (ofP m L y).fo := by
    rw [List.map_map]
    exact List.map_congr_left (fun y hy => by show (ofP s (L.map i7) (ofP m L y).fo).fo = _; rw [ih y hy (he y hy)])
  have hsk : s6 ⟨x.k, (a0d m L x p).n, ⟨#[]⟩, 0, 0⟩ (l.map fun y => (ofP m L y).fo).length = true ∧ a60 s (L.map i7).length ⟨x.k, (a0d m L x p).n, ⟨#[]⟩, 0, 0⟩ = true := by
    rw [List.length_map, List.length_map]
    by_cases h13 : x.k = 13
    · exact ⟨(c5m (x := ⟨x.k, (a0d m L x p).n, ⟨#[]⟩, 0, 0⟩) (y := x) h13 h13).trans hs, c4x h13⟩
    · rw [b8b m L x p h13]
      exact ⟨hs, (M.knw rfl rfl).trans hk⟩
  dsimp only
  have key := a1q (m := s) (L := L.map i7) (x := ⟨x.k, (a0d m L x p).n, ⟨#[]⟩, 0, 0⟩) (l := l.map fun y => (ofP m L y).fo) hsk.1 h17 hsk.2 (fun y hy => by
    obtain ⟨z, hz, rfl⟩ := List.mem_map.1 hy
    rw [ih z hz (he z hz)]) (by rw [hp']; exact r2)
  rw [hp', hf', r1, r3] at key
  exact key
end
end Go.Proofs.YthmdllhhmhbhbaaGreatDoor.am
end
section
namespace Go.Proofs.YthmdllhhmhbhbaaGreatDoor.am
open Go.ChangeShapes Go.WideShapes Go.ChangeAt Go.RowKit
open vt
set_option linter.unusedVariables false
set_option linter.unusedSimpArgs false
structure GR where
  t : VT
  pl : Int
  er : Int
def v8 (k : Int) : Int × Int :=
  if k = 20 ∨ k = 21 ∨ k = 26 ∨ k = 27 ∨ k = 28 then (1, 0)
  else if k = 22 then (2, 0)
  else if k = 23 then (3, 2)
  else if k = 24 then (2, 1)
  else if k = 25 then (3, 1)
  else (-1, 0)
def b4l (y : VT) : Bool := decide (y.lab.k = 29)
def a0e (x : Lab) (l : List VT) : Bool := if x.k = 29 then true else decide ((l.length : Int) = (v8 x.k).1) && (l.drop ((v8 x.k).1 - (v8 x.k).2).toNat).all b4l
def c1f (l : List VT) : Bool := l.all r9
def a18 (f : VT) : List VT := ((f.kids.getD 0 z0T).kids).map (fun q => q.kids.getD 0 z0T)
end Go.Proofs.YthmdllhhmhbhbaaGreatDoor.am
end
section
namespace Go.Proofs.YthmdllhhmhbhbaaGreatDoor.am
open Go.ChangeShapes Go.WideShapes Go.ChangeAt Go.RowKit
open vt
set_option linter.unusedVariables false
set_option linter.unusedSimpArgs false
structure JS where
  lo : List VT
  at' : Int
  er : Int
def p7 (x : Lab) (e : Int) (j : JS) : JS := if j.er = 0 then ⟨j.lo, x.f, e⟩ else j
def a2q (t : VT) (j : JS) : JS := ⟨j.lo ++ [t], j.at', j.er⟩
noncomputable def l5 (m t : VT) (j : JS) : VT × VT × JS :=
  if ¬ j.er = 0 then (z0T, z0T, j)
  else ((ofP m j.lo t).ty, (ofP m j.lo t).fo, if (ofP m j.lo t).er = 0 then j else ⟨j.lo, (ofP m j.lo t).pl, (ofP m j.lo t).er⟩)
noncomputable def ofJ (m t : VT) (p : VT → Bool) (j : JS) : VT × JS :=
  ((l5 m t j).2.1, if p (l5 m t j).1 = true then (l5 m t j).2.2 else p7 t.lab 10 (l5 m t j).2.2)
noncomputable def a8l (m t : VT) (j : JS) : JS := if a1j m t = 0 then p7 t.lab 11 j else j
def t8 {α : Type} : List (JS → α × JS) → JS → List α × JS
  | [], j => ([], j)
  | f :: r, j => ((f j).1 :: (t8 r (f j).2).1, (t8 r (f j).2).2)
noncomputable def a6j (fs : List (JS → VT × JS)) (j : JS) : List VT × JS :=
  if ¬ (t8 fs j).2.er = 0 then ([], (t8 fs j).2)
  else ((t8 fs j).1, ⟨(t8 fs j).2.lo.take j.lo.length, (t8 fs j).2.at', (t8 fs j).2.er⟩)
noncomputable def b0a (m : VT) (x : Lab) (l : List VT) (j : JS) : List VT × JS :=
  let a := l5 m (l.getD 0 z0T) j
  let b := l5 m (l.getD 1 z0T) a.2.2
  let c := if (a29 (l.getD 0 z0T)).lab.k = 7 ∨ (a29 (l.getD 0 z0T)).lab.k = 9 then b.2.2 else p7 (l.getD 0 z0T).lab 12 b.2.2
  ([a.2.1, b.2.1], if same a.1 b.1 = true then c else p7 x 10 c)
noncomputable def b1q (m : VT) (l : List VT) (f : JS → VT × JS) (j : JS) : List VT × JS :=
  let a := ofJ m (l.getD 0 z0T) (fun t => isT t 1) j
  let b := ofJ m (l.getD 1 z0T) (fun t => isT t 1) a.2
  let c := f (a2q (tyT 1) b.2)
  ([a.1, b.1, c.1], ⟨c.2.lo.take b.2.lo.length, c.2.at', c.2.er⟩)
noncomputable def doJ (m t : VT) (j : JS) : VT × JS :=
  let c := if t.lab.k = 16 then j else p7 t.lab 12 j
  ((l5 m t c).2.1, (l5 m t c).2.2)
noncomputable def a1g (m ret : VT) (x : Lab) (l : List VT) (fs : List (JS → VT × JS)) (j : JS) : List VT × JS :=
  if x.k = 29 then a6j fs j
  else if x.k = 20 then ([(l5 m (l.getD 0 z0T) j).2.1], a2q (l5 m (l.getD 0 z0T) j).1 (l5 m (l.getD 0 z0T) j).2.2)
  else if x.k = 21 then ([i7 (l.getD 0 z0T)], a2q (a0r (l.getD 0 z0T)) (a8l m (l.getD 0 z0T) j))
  else if x.k = 22 then b0a m x l j
  else if x.k = 23 ∨ x.k = 24 then ((ofJ m (l.getD 0 z0T) (fun t => isT t 2) j).1 :: (t8 (fs.drop 1) (ofJ m (l.getD 0 z0T) (fun t => isT t 2) j).2).1, (t8 (fs.drop 1) (ofJ m (l.getD 0 z0T) (fun t => isT t 2) j).2).2)
  else if x.k = 25 then b1q m l (fs.getD 2 (fun j => (z0T, j))) j
  else if x.k = 26 then ([(ofJ m (l.getD 0 z0T) (fun t => isT t 1 || isT t 2) j).1], (ofJ m (l.getD 0 z0T) (fun t => isT t 1 || isT t 2) j).2)
  else if x.k = 27 then ([(ofJ m (l.getD 0 z0T) (fun t => same t ret) j).1], (ofJ m (l.getD 0 z0T) (fun t => same t ret) j).2)
  else ([(doJ m (l.getD 0 z0T) j).1], (doJ m (l.getD 0 z0T) j).2)
noncomputable def a5t (m ret : VT) (x : Lab) (l : List VT) (fs : List (JS → VT × JS)) (j : JS) : VT × JS :=
  if ¬ j.er = 0 then (z0T, j)
  else if a0e x l = false then (z0T, p7 x 12 j)
  else (.mk ⟨x.k, x.n, ⟨#[]⟩, 0, 0⟩ (a1g m ret x l fs j).1, (a1g m ret x l fs j).2)
noncomputable def j7 (m ret : VT) (t : VT) : JS → VT × JS := Tr.fold (a5t m ret) t
theorem a1t (m ret : VT) (x : Lab) (l : List VT) (j : JS) : j7 m ret (.mk x l) j = a5t m ret x l (l.map (j7 m ret)) j := congrFun (Tr.fold_mk _ x l) j
noncomputable def nlJ (j : JS) : JS := ⟨j.lo.map i7, j.at', j.er⟩
theorem t6 {x : Lab} {e : Int} {j : JS} (he : ¬ e = 0) : ¬ (p7 x e j).er = 0 := by
  unfold p7
  split
  · exact he
  · rename_i h; exact h
theorem a07 {m t : VT} {j : JS} (h : (l5 m t j).2.2.er = 0) : j.er = 0 ∧ (ofP m j.lo t).er = 0 ∧ l5 m t j = ((ofP m j.lo t).ty, (ofP m j.lo t).fo, j) := by
  unfold l5 at h ⊢
  by_cases h0 : j.er = 0
  · rw [if_neg (by simpa using h0)] at h ⊢
    dsimp only at h
    by_cases he : (ofP m j.lo t).er = 0
    · rw [if_pos he]; exact ⟨h0, he, rfl⟩
    · rw [if_neg he] at h; exact absurd h he
  · rw [if_pos h0] at h; exact absurd h h0
theorem c0w {m t : VT} {j : JS} (h : (l5 m t j).2.2.er = 0) : (l5 m t j).2.2 = j := by rw [(a07 h).2.2]
theorem fo_lab {m : VT} {L : List VT} (t : VT) (h : (ofP m L t).er = 0) : (ofP m L t).fo.lab.k = t.lab.k ∧ (ofP m L t).fo.kids = t.kids.map fun y => (ofP m L y).fo := by
  obtain ⟨x, l⟩ := t
  obtain ⟨hs, h17, hk, he, hok⟩ := a8b h
  rw [a1q hs h17 hk he hok]
  exact ⟨rfl, rfl⟩
theorem c4p {m : VT} {L : List VT} (t : VT) : (ofP m L t).er = 0 → (a29 (ofP m L t).fo).lab.k = (a29 t).lab.k := by
  induction t using Tr.ind with
  | h x l ih =>
  intro h
  obtain ⟨hs, h17, hk, he, hok⟩ := a8b h
  rw [a1q hs h17 hk he hok]
  dsimp only
  rw [a8g, a8g, List.length_map]
  dsimp only
  split
  · rename_i hc
    cases l with
    | nil => simp at hc
    | cons a r =>
      simp only [List.map_cons, List.getD_cons_zero]
      exact ih a (by simp) (he a (by simp))
  · rfl
section
variable {m s : VT} (M : Sd m s)
include M
theorem Sd.expr {t : VT} {j : JS} (h : (l5 m t j).2.2.er = 0) : l5 s (l5 m t j).2.1 (nlJ j) = (i7 (l5 m t j).1, (l5 m t j).2.1, nlJ (l5 m t j).2.2) := by
  obtain ⟨h0, he, h1⟩ := a07 h
  rw [h1]
  dsimp only
  have hE := M.ofE (L := j.lo) t he
  unfold l5
  rw [if_neg (show ¬ ¬ (nlJ j).er = 0 from fun h => h h0)]
  show ((ofP s (j.lo.map i7) (ofP m j.lo t).fo).ty, (ofP s (j.lo.map i7) (ofP m j.lo t).fo).fo, if (ofP s (j.lo.map i7) (ofP m j.lo t).fo).er = 0 then nlJ j else _) = _
  rw [hE]
  exact congrArg (fun z => (_, _, z)) (if_pos rfl)
omit M in
theorem b70 {t : VT} {p : VT → Bool} {j : JS} (h : (ofJ m t p j).2.er = 0) : (l5 m t j).2.2.er = 0 ∧ p (l5 m t j).1 = true ∧ ofJ m t p j = ((l5 m t j).2.1, (l5 m t j).2.2) := by
  unfold ofJ at h ⊢
  by_cases hp : p (l5 m t j).1 = true
  · rw [if_pos hp] at h ⊢; exact ⟨h, hp, rfl⟩
  · rw [if_neg hp] at h; exact absurd h (t6 (by decide))
omit M in
theorem ofJ_er {t : VT} {p : VT → Bool} {j : JS} (h : (ofJ m t p j).2.er = 0) : (ofJ m t p j).2 = j := by
  obtain ⟨h1, h2, h3⟩ := b70 h
  rw [h3]; exact c0w h1
theorem Sd.ofJE {t : VT} {p q : VT → Bool} (hpq : ∀ a, p a = true → q (i7 a) = true) {j : JS} (h : (ofJ m t p j).2.er = 0) : ofJ s (ofJ m t p j).1 q (nlJ j) = ((ofJ m t p j).1, nlJ (ofJ m t p j).2) := by
  obtain ⟨h1, h2, h3⟩ := b70 h
  rw [h3]
  have hE := M.expr h1
  unfold ofJ
  dsimp only
  rw [hE]
  dsimp only
  rw [if_pos (hpq _ h2)]
end
end Go.Proofs.YthmdllhhmhbhbaaGreatDoor.am
end
section
namespace Go.Proofs.YthmdllhhmhbhbaaGreatDoor.am
open Go.ChangeShapes Go.WideShapes Go.ChangeAt Go.RowKit
open vt
set_option linter.unusedVariables false
set_option linter.unusedSimpArgs false
noncomputable abbrev vTT (a b : VT) : AV := .tup [.agg (ta a), .agg (ta b)]
structure CnJ (m : VT) (L : List VT) (B : Nat) : Prop where
  hm : x4 B m
  hL : ∀ t ∈ L, x4 B t
  hB : B ≤ 400000
  hl : L.length ≤ 400000
theorem a0l (m ret : VT) (B : Nat) (j : JS) (E : List VT) (hE : OkV j.lo E) (hc : CnJ m j.lo B) (t : VT) (ht : p6 t) (hts : t.size ≤ 400000) : Row Tryz.prog 84 [.v (.c (.ptr 0 0)), vT t] [bxJ 1 m ret j.lo.length j.at' j.er, arJ E] (vTT (l5 m t j).1 (l5 m t j).2.1) [some (bxJ 1 m ret j.lo.length (l5 m t j).2.2.at' (l5 m t j).2.2.er), some (arJ E)] := by
  obtain ⟨L, a, e⟩ := j
  obtain ⟨hm, hL, hB, hl⟩ := hc
  dsimp only at hE hL hl ⊢
  unfold l5
  dsimp only
  by_cases he : e = 0; rotate_left
  · rw [if_pos he]
    obtain ⟨mx, ml⟩ := m
    obtain ⟨rx, rl⟩ := ret
    obtain ⟨x, l⟩ := t
    refine e8 Tryz.func84 rfl rfl (Nat.le_of_ble_eq_true rfl) ?_
    repeat (first | refine d7 ?_ | refine b9 ?_ | refine a8 ?_ | refine b8 ?_ | refine f7 rfl ?_ | refine f6 rfl ?_ | ((first | refine d6 (fun K hK => ?_) | refine d8 f8 (fun K hK => ?_) | fail); simp -implicitDefEqProofs [he]; first | refine hK _ ?_ | refine hK _ _ (by rfl) ?_ | fail) | fail)
    refine e7 (j6 [0, 1] ?_); simp -implicitDefEqProofs [l4, g7, g9, he] <;> try rfl
  subst he
  rw [if_neg (by simp)]
  have h := c58 m L E hE B hm hL hB hl t ht hts
  obtain ⟨⟨⟨ax, al⟩, ⟨bx, bl⟩, gp, ge⟩, hG⟩ : ∃ g, ofP m L t = g := ⟨_, rfl⟩
  rw [hG] at h ⊢
  dsimp only at h ⊢
  clear hG
  obtain ⟨mx, ml⟩ := m
  obtain ⟨rx, rl⟩ := ret
  obtain ⟨x, l⟩ := t
  by_cases hg : ge = 0
  · subst hg
    rw [if_pos rfl]
    refine e8 Tryz.func84 rfl rfl (Nat.le_of_ble_eq_true rfl) ?_
    repeat' (first | refine d7 ?_ | refine b9 ?_ | refine a8 ?_ | refine b8 ?_ | refine f7 rfl ?_ | refine f6 rfl ?_ | ((first | refine d6 (fun K hK => ?_) | refine d8 f8 (fun K hK => ?_) | refine b7 (cg h [1] ?_) | refine a6 (dg h [1] ?_) | fail); simp -implicitDefEqProofs) | refine hK _ ?_ | refine hK _ _ (by rfl) ?_ | fail)
    refine e7 (j6 [0, 1] ?_); simp -implicitDefEqProofs [l4, g7, g9] <;> try rfl
  · rw [if_neg hg]
    refine e8 Tryz.func84 rfl rfl (Nat.le_of_ble_eq_true rfl) ?_
    repeat' (first | refine d7 ?_ | refine b9 ?_ | refine a8 ?_ | refine b8 ?_ | refine f7 rfl ?_ | refine f6 rfl ?_ | ((first | refine d6 (fun K hK => ?_) | refine d8 f8 (fun K hK => ?_) | refine b7 (cg h [1] ?_) | refine a6 (dg h [1] ?_) | fail); simp -implicitDefEqProofs [hg]) | refine hK _ ?_ | refine hK _ _ (by rfl) ?_ | fail)
    refine e7 (j6 [0, 1] ?_); simp -implicitDefEqProofs [l4, g7, g9, hg] <;> try rfl
theorem b4t (m ret : VT) (hr : ret.size ≤ 1000000) (n : Nat) (E : List VT) (a e : Int) (t : VT) (hts : t.size ≤ 1000000) : Row Tryz.prog 90 [.v (.c (.ptr 0 0)), vT t] [bxJ 1 m ret n a e, arJ E] (vB (same t ret)) [some (bxJ 1 m ret n a e), some (arJ E)] := by
  have h := a1u t hts ret hr
  obtain ⟨b, hb⟩ : ∃ b, same t ret = b := ⟨_, rfl⟩
  rw [hb] at h ⊢
  clear hb
  obtain ⟨mx, ml⟩ := m
  obtain ⟨rx, rl⟩ := ret
  obtain ⟨x, l⟩ := t
  refine e8 Tryz.func90 rfl rfl (Nat.le_of_ble_eq_true rfl) ?_
  repeat' (first | refine d7 ?_ | refine b9 ?_ | refine a8 ?_ | refine b8 ?_ | refine f7 rfl ?_ | refine f6 rfl ?_ | ((first | refine d6 (fun K hK => ?_) | refine d8 f8 (fun K hK => ?_) | refine b7 (cp h ?_) | refine a6 (dp h ?_) | fail); simp -implicitDefEqProofs) | refine hK _ ?_ | refine hK _ _ (by rfl) ?_ | fail)
  refine e7 (j6 [0, 1] ?_); simp -implicitDefEqProofs [l4, g7, g9] <;> try rfl
theorem a73 (m ret : VT) (B : Nat) (j : JS) (E : List VT) (hE : OkV j.lo E) (hc : CnJ m j.lo B) (t : VT) (ht : p6 t) (hts : t.size ≤ 400000) (f : Nat) (p : VT → Bool) (hp : ∀ x l, Row Tryz.prog f [vT (.mk x l)] [] (vB (p (.mk x l))) []) : Row Tryz.prog 86 [.v (.c (.ptr 0 0)), vT t, .v (.c (.fn (.func f) [] []))] [bxJ 1 m ret j.lo.length j.at' j.er, arJ E] (vT (ofJ m t p j).1) [some (bxJ 1 m ret j.lo.length (ofJ m t p j).2.at' (ofJ m t p j).2.er), some (arJ E)] := by
  have he := a0l m ret B j E hE hc t ht hts
  unfold ofJ
  obtain ⟨⟨⟨kx, kl⟩, ⟨sx, sl⟩, ⟨L', a', e'⟩⟩, hx⟩ : ∃ r, l5 m t j = r := ⟨_, rfl⟩
  rw [hx] at he ⊢
  dsimp only at he ⊢
  clear hx hc
  obtain ⟨L, a, e⟩ := j
  dsimp only at he hE ⊢
  have hpk := hp kx kl
  obtain ⟨x, l⟩ := t
  have hf := n4 m ret L.length E a' e' x l 10
  rw [Tr.lab]
  obtain ⟨mx, ml⟩ := m
  obtain ⟨rx, rl⟩ := ret
  cases hb : p (.mk kx kl) with
  | true =>
    rw [hb] at hpk
    rw [if_pos rfl]
    clear hf
    refine e8 Tryz.func86 rfl rfl (Nat.le_of_ble_eq_true rfl) ?_
    repeat' (first | refine d7 ?_ | refine b9 ?_ | refine a8 ?_ | refine b8 ?_ | refine f7 rfl ?_ | refine f6 rfl ?_ | ((first | refine d6 (fun K hK => ?_) | refine d8 f8 (fun K hK => ?_) | refine b7 (cg he [0,1] ?_) | refine a6 (dg he [0,1] ?_) | refine b7 (cp hpk ?_) | refine a6 (dp hpk ?_) | fail); simp -implicitDefEqProofs) | refine hK _ ?_ | refine hK _ _ (by rfl) ?_ | fail)
    refine e7 (j6 [0, 1] ?_); simp -implicitDefEqProofs [l4, g7, g9] <;> try rfl
  | false =>
    rw [hb] at hpk
    rw [if_neg (by simp)]
    unfold p7
    dsimp only
    by_cases he0 : e' = 0
    · rw [if_pos he0, if_pos he0] at hf
      rw [if_pos he0]
      refine e8 Tryz.func86 rfl rfl (Nat.le_of_ble_eq_true rfl) ?_
      repeat' (first | refine d7 ?_ | refine b9 ?_ | refine a8 ?_ | refine b8 ?_ | refine f7 rfl ?_ | refine f6 rfl ?_ | ((first | refine d6 (fun K hK => ?_) | refine d8 f8 (fun K hK => ?_) | refine b7 (cg he [0,1] ?_) | refine a6 (dg he [0,1] ?_) | refine b7 (cp hpk ?_) | refine a6 (dp hpk ?_) | refine b7 (cg hf [0,1] ?_) | refine a6 (dg hf [0,1] ?_) | fail); simp -implicitDefEqProofs) | refine hK _ ?_ | refine hK _ _ (by rfl) ?_ | fail)
      refine e7 (j6 [0, 1] ?_); simp -implicitDefEqProofs [l4, g7, g9] <;> try rfl
    · rw [if_neg he0, if_neg he0] at hf
      rw [if_neg he0]
      refine e8 Tryz.func86 rfl rfl (Nat.le_of_ble_eq_true rfl) ?_
      repeat' (first | refine d7 ?_ | refine b9 ?_ | refine a8 ?_ | refine b8 ?_ | refine f7 rfl ?_ | refine f6 rfl ?_ | ((first | refine d6 (fun K hK => ?_) | refine d8 f8 (fun K hK => ?_) | refine b7 (cg he [0,1] ?_) | refine a6 (dg he [0,1] ?_) | refine b7 (cp hpk ?_) | refine a6 (dp hpk ?_) | refine b7 (cg hf [0,1] ?_) | refine a6 (dg hf [0,1] ?_) | fail); simp -implicitDefEqProofs) | refine hK _ ?_ | refine hK _ _ (by rfl) ?_ | fail)
      refine e7 (j6 [0, 1] ?_); simp -implicitDefEqProofs [l4, g7, g9] <;> try rfl
theorem c00 (m ret : VT) (hrs : ret.size ≤ 1000000) (B : Nat) (j : JS) (E : List VT) (hE : OkV j.lo E) (hc : CnJ m j.lo B) (t : VT) (ht : p6 t) (hts : t.size ≤ 400000) : Row Tryz.prog 86 [.v (.c (.ptr 0 0)), vT t, .v (.c (.fn (.func 90) [.ptr 0 0] []))] [bxJ 1 m ret j.lo.length j.at' j.er, arJ E] (vT (ofJ m t (fun t => same t ret) j).1) [some (bxJ 1 m ret j.lo.length (ofJ m t (fun t => same t ret) j).2.at' (ofJ m t (fun t => same t ret) j).2.er), some (arJ E)] := by
  have he := a0l m ret B j E hE hc t ht hts
  have hks : (l5 m t j).1.size ≤ 1000000 := by
    unfold l5
    split
    · show Tr.size z0T ≤ _
      simp [Tr.size_mk]
    · have := (b3k hc.hm (by have := hc.hm.2; have := hc.hB; omega) hc.hL t ht (by omega)).ty.2
      have := hc.hB
      dsimp only
      omega
  unfold ofJ
  obtain ⟨⟨⟨kx, kl⟩, ⟨sx, sl⟩, ⟨L', a', e'⟩⟩, hx⟩ : ∃ r, l5 m t j = r := ⟨_, rfl⟩
  rw [hx] at he hks ⊢
  dsimp only at he hks ⊢
  clear hx hc
  obtain ⟨L, a, e⟩ := j
  dsimp only at he hE ⊢
  have hpk := b4t m ret hrs L.length E a' e' (.mk kx kl) hks
  obtain ⟨x, l⟩ := t
  have hf := n4 m ret L.length E a' e' x l 10
  rw [Tr.lab]
  by_cases hb : same (.mk kx kl) ret = true
  · rw [hb] at hpk
    rw [if_pos hb]
    clear hf
    obtain ⟨mx, ml⟩ := m
    obtain ⟨rx, rl⟩ := ret
    refine e8 Tryz.func86 rfl rfl (Nat.le_of_ble_eq_true rfl) ?_
    repeat' (first | refine d7 ?_ | refine b9 ?_ | refine a8 ?_ | refine b8 ?_ | refine f7 rfl ?_ | refine f6 rfl ?_ | ((first | refine d6 (fun K hK => ?_) | refine d8 f8 (fun K hK => ?_) | refine b7 (cg he [0,1] ?_) | refine a6 (dg he [0,1] ?_) | refine b7 (cg hpk [0,1] ?_) | refine a6 (dg hpk [0,1] ?_) | fail); simp -implicitDefEqProofs) | refine hK _ ?_ | refine hK _ _ (by rfl) ?_ | fail)
    refine e7 (j6 [0, 1] ?_); simp -implicitDefEqProofs [l4, g7, g9] <;> try rfl
  · rw [if_neg hb]
    have hb : same (.mk kx kl) ret = false := by simpa using hb
    rw [hb] at hpk
    clear hb
    unfold p7
    dsimp only
    obtain ⟨mx, ml⟩ := m
    obtain ⟨rx, rl⟩ := ret
    by_cases he0 : e' = 0
    · rw [if_pos he0, if_pos he0] at hf
      rw [if_pos he0]
      refine e8 Tryz.func86 rfl rfl (Nat.le_of_ble_eq_true rfl) ?_
      repeat' (first | refine d7 ?_ | refine b9 ?_ | refine a8 ?_ | refine b8 ?_ | refine f7 rfl ?_ | refine f6 rfl ?_ | ((first | refine d6 (fun K hK => ?_) | refine d8 f8 (fun K hK => ?_) | refine b7 (cg he [0,1] ?_) | refine a6 (dg he [0,1] ?_) | refine b7 (cg hpk [0,1] ?_) | refine a6 (dg hpk [0,1] ?_) | refine b7 (cg hf [0,1] ?_) | refine a6 (dg hf [0,1] ?_) | fail); simp -implicitDefEqProofs) | refine hK _ ?_ | refine hK _ _ (by rfl) ?_ | fail)
      refine e7 (j6 [0, 1] ?_); simp -implicitDefEqProofs [l4, g7, g9] <;> try rfl
    · rw [if_neg he0, if_neg he0] at hf
      rw [if_neg he0]
      refine e8 Tryz.func86 rfl rfl (Nat.le_of_ble_eq_true rfl) ?_
      repeat' (first | refine d7 ?_ | refine b9 ?_ | refine a8 ?_ | refine b8 ?_ | refine f7 rfl ?_ | refine f6 rfl ?_ | ((first | refine d6 (fun K hK => ?_) | refine d8 f8 (fun K hK => ?_) | refine b7 (cg he [0,1] ?_) | refine a6 (dg he [0,1] ?_) | refine b7 (cg hpk [0,1] ?_) | refine a6 (dg hpk [0,1] ?_) | refine b7 (cg hf [0,1] ?_) | refine a6 (dg hf [0,1] ?_) | fail); simp -implicitDefEqProofs) | refine hK _ ?_ | refine hK _ _ (by rfl) ?_ | fail)
      refine e7 (j6 [0, 1] ?_); simp -implicitDefEqProofs [l4, g7, g9] <;> try rfl
end Go.Proofs.YthmdllhhmhbhbaaGreatDoor.am
end
section
namespace Go.Proofs.YthmdllhhmhbhbaaGreatDoor.am
open vt
set_option linter.unusedVariables false
set_option linter.unusedSimpArgs false
theorem u5 (x : Lab) (e : Int) (j : JS) : (p7 x e j).lo = j.lo := by unfold p7; split <;> rfl
theorem y3 (m t : VT) (j : JS) : (l5 m t j).2.2.lo = j.lo := by
  unfold l5
  split
  · rfl
  · dsimp only; split <;> rfl
theorem w8 (m t : VT) (p : VT → Bool) (j : JS) : (ofJ m t p j).2.lo = j.lo := by
  unfold ofJ
  dsimp only
  split
  · exact y3 m t j
  · rw [u5]; exact y3 m t j
theorem b2b (m t : VT) (j : JS) : (a8l m t j).lo = j.lo := by unfold a8l; split; exact u5 _ _ _; rfl
theorem b62 (m t : VT) (j : JS) : (doJ m t j).2.lo = j.lo := by
  unfold doJ
  dsimp only
  rw [y3]
  split
  · rfl
  · exact u5 _ _ _
theorem b19 (m : VT) (x : Lab) (l : List VT) (j : JS) : (b0a m x l j).2.lo = j.lo := by
  have h1 : (l5 m (l.getD 1 z0T) (l5 m (l.getD 0 z0T) j).2.2).2.2.lo = j.lo := by rw [y3, y3]
  unfold b0a
  dsimp only
  split
  · split
    · exact h1
    · rw [u5]; exact h1
  · rw [u5]
    split
    · exact h1
    · rw [u5]; exact h1
structure Cm (m : VT) (L : List VT) (ret : VT) (B sz : Nat) : Prop where
  hm : x4 B m
  hL : ∀ t ∈ L, x4 B t
  len : L.length + sz ≤ 400000
  le : B + sz ≤ 400000
  ret : x4 400000 ret
theorem Cm.less {m : VT} {L : List VT} {ret : VT} {B sz sz' : Nat} (h : Cm m L ret B sz) (hs : sz' ≤ sz) : Cm m L ret B sz' := ⟨h.hm, h.hL, by have := h.len; omega, by have := h.le; omega, h.ret⟩
structure Lk (B N : Nat) (j : JS) : Prop where
  fine : ∀ t ∈ j.lo, x4 B t
  len : j.lo.length ≤ N
theorem Lk.mono {B N B' N' : Nat} {j : JS} (h : Lk B N j) (hB : B ≤ B') (hN : N ≤ N') : Lk B' N' j := ⟨fun t ht => (h.fine t ht).le hB, by have := h.len; omega⟩
theorem Lk.of {B N : Nat} {j k : JS} (h : Lk B N j) (e : k.lo = j.lo) : Lk B N k := ⟨by rw [e]; exact h.fine, by rw [e]; exact h.len⟩
theorem Lk.brg {B N : Nat} {j : JS} {t : VT} (h : Lk B N j) (ht : x4 B t) : Lk B (N + 1) (a2q t j) := ⟨fun y hy => by
  rcases List.mem_append.1 (show y ∈ j.lo ++ [t] from hy) with hy | hy
  · exact h.fine y hy
  · rw [List.mem_singleton.1 hy]; exact ht, by show (j.lo ++ [t]).length ≤ _; rw [List.length_append]; have := h.len; simp; omega⟩
theorem Lk.cut {B N n : Nat} {j k : JS} (h : Lk B N j) (e : k.lo = j.lo.take n) : Lk B N k := ⟨fun y hy => h.fine y (List.mem_of_mem_take (by rw [← e]; exact hy)), by rw [e, List.length_take]; have := h.len; omega⟩
theorem a41 {m : VT} {B N : Nat} (hm : x4 B m) (hms : m.size ≤ 1000000) {j : JS} (h : Lk B N j) {t : VT} (ht : p6 t) (hts : t.size ≤ 1000000) : x4 (B + t.size) (l5 m t j).1 := by
  unfold l5
  split
  · exact y9 (by have := Tr.size_pos t; omega)
  · exact (b3k hm hms h.fine t ht hts).ty
theorem b3u {m ret : VT} {B0 : Nat} : ∀ {l : List VT}, (∀ y ∈ l, ∀ (j : JS) (B N : Nat), B0 ≤ B → Lk B N j → B + y.size ≤ 1000000 → Lk (B + y.size) (N + y.size) (j7 m ret y j).2) → ∀ (j : JS) (B N : Nat), B0 ≤ B → Lk B N j → B + (l.map Tr.size).sum ≤ 1000000 → Lk (B + (l.map Tr.size).sum) (N + (l.map Tr.size).sum) (t8 (l.map (j7 m ret)) j).2
  | [], _, j, B, N, h0, h, _ => h
  | y :: l, hq, j, B, N, h0, h, hb => by
    rw [List.map_cons, List.sum_cons] at hb ⊢
    rw [List.map_cons]
    have h1 := hq y (.head _) j B N h0 h (by omega)
    have h2 := b3u (l := l) (fun z hz => hq z (.tail _ hz)) _ (B + y.size) (N + y.size) (by omega) h1 (by omega)
    rw [← Nat.add_assoc, ← Nat.add_assoc]
    exact h2
theorem c3b {m ret : VT} {B0 : Nat} (hm : x4 B0 m) (hms : m.size ≤ 1000000) (t : VT) : p6 t → ∀ (j : JS) (B N : Nat), B0 ≤ B → Lk B N j → B + t.size ≤ 1000000 → Lk (B + t.size) (N + t.size) (j7 m ret t j).2 := by
  induction t using Tr.ind with
  | h x l ih =>
  intro ht j B N h0 h hb
  have hkin := ((Tr.all_mk _ x l).1 ht).2
  have hsz : (Tr.mk x l).size = 1 + (l.map Tr.size).sum := Tr.size_mk x l
  have up : Lk (B + (Tr.mk x l).size) (N + (Tr.mk x l).size) j := h.mono (by omega) (by omega)
  have kid : ∀ i, (l.getD i z0T).size ≤ (Tr.mk x l).size ∧ p6 (l.getD i z0T) := fun i => by
    have := (show x4 (Tr.mk x l).size (.mk x l) from ⟨ht, Nat.le_refl _⟩).kid i
    exact ⟨this.2, this.1⟩
  have hsq : Lk (B + (l.map Tr.size).sum) (N + (l.map Tr.size).sum) (t8 (l.map (j7 m ret)) j).2 := b3u (B0 := B0) (fun y hy j B N h0 h hb => ih y hy (hkin y hy) j B N h0 h hb) j B N h0 h (by omega)
  rw [a1t]
  unfold a5t
  split
  · exact up
  split
  · exact up.of (u5 _ _ _)
  show Lk _ _ (a1g m ret x l (l.map (j7 m ret)) j).2
  rename_i hsh
  have hsh : a0e x l = true := by simpa using hsh
  unfold a1g
  split
  · unfold a6j
    split
    · exact hsq.mono (by omega) (by omega)
    · exact (hsq.mono (by omega) (by omega)).cut (n := j.lo.length) rfl
  rename_i c29
  split
  · have hf := a41 (hm.le h0) hms h (kid 0).2 (by have := (kid 0).1; omega)
    exact ((h.mono (B' := B + (Tr.mk x l).size) (N' := N) (by omega) (by omega)).of (y3 m (l.getD 0 z0T) j)).brg (hf.le (by have := (kid 0).1; omega)) |>.mono (by omega) (by omega)
  split
  · have hf : x4 (B + (Tr.mk x l).size) (a0r (l.getD 0 z0T)) := x4.bare ⟨(kid 0).2, by have := (kid 0).1; omega⟩
    exact ((h.mono (B' := B + (Tr.mk x l).size) (N' := N) (by omega) (by omega)).of (b2b m (l.getD 0 z0T) j)).brg hf |>.mono (by omega) (by omega)
  split
  · exact up.of (b19 m x l j)
  split
  · have h1 : Lk B N (ofJ m (l.getD 0 z0T) (fun t => isT t 2) j).2 := h.of (w8 _ _ _ _)
    have := b3u (m := m) (ret := ret) (l := l.drop 1) (B0 := B0) (fun y hy j B N h0 h hb => ih y (List.mem_of_mem_drop hy) (hkin y (List.mem_of_mem_drop hy)) j B N h0 h hb) _ B N h0 h1 (by
      have : ((l.drop 1).map Tr.size).sum ≤ (l.map Tr.size).sum := by cases l <;> simp
      omega)
    have e : ((l.drop 1).map Tr.size).sum ≤ (l.map Tr.size).sum := by cases l <;> simp
    rw [← List.map_drop]
    exact this.mono (by omega) (by omega)
  split
  · rename_i c25
    have h3 : l.length = 3 := by
      unfold a0e at hsh
      rw [if_neg c29, Bool.and_eq_true] at hsh
      have := of_decide_eq_true hsh.1
      rw [c25] at this
      simp [v8] at this
      omega
    obtain ⟨a, b, c, rfl⟩ := t7 h3
    simp only [List.map_cons, List.map_nil, List.sum_cons, List.sum_nil] at hsz
    unfold b1q
    dsimp only [List.map_cons, List.map_nil, List.getD_cons_zero, List.getD_cons_succ]
    have h1 : Lk B N (ofJ m b (fun t => isT t 1) (ofJ m a (fun t => isT t 1) j).2).2 := h.of (by rw [w8, w8])
    have hB1 : 1 ≤ B := Nat.le_trans (Nat.le_trans (Tr.size_pos m) hm.2) h0
    have h2 := ih c (by simp) (hkin c (by simp)) _ B (N + 1) h0 (h1.brg (a0u (k := 1) hB1 (by omega))) (by omega)
    refine (Lk.cut (n := (ofJ m b (fun t => isT t 1) (ofJ m a (fun t => isT t 1) j).2).2.lo.length) h2 ?_).mono (by omega) (by omega)
    rfl
  split
  · exact up.of (w8 m (l.getD 0 z0T) (fun t => isT t 1 || isT t 2) j)
  split
  · exact up.of (w8 m (l.getD 0 z0T) (fun t => same t ret) j)
  · exact up.of (b62 m (l.getD 0 z0T) j)
theorem b3t {m ret : VT} : ∀ {l : List VT}, (∀ y ∈ l, ∀ j : JS, j.lo.length ≤ (j7 m ret y j).2.lo.length) → ∀ j : JS, j.lo.length ≤ (t8 (l.map (j7 m ret)) j).2.lo.length
  | [], _, j => Nat.le_refl _
  | y :: l, hq, j => by
    rw [List.map_cons]
    exact Nat.le_trans (hq y (.head _) j) (b3t (l := l) (fun z hz => hq z (.tail _ hz)) _)
theorem c3a (m ret : VT) (t : VT) : ∀ j : JS, j.lo.length ≤ (j7 m ret t j).2.lo.length := by
  induction t using Tr.ind with
  | h x l ih =>
  intro j
  rw [a1t]
  unfold a5t
  split
  · exact Nat.le_refl _
  split
  · rw [u5]; exact Nat.le_refl _
  show j.lo.length ≤ (a1g m ret x l (l.map (j7 m ret)) j).2.lo.length
  have brg : ∀ (t : VT) (k : JS), k.lo = j.lo → j.lo.length ≤ (a2q t k).lo.length := fun t k e => by
    show _ ≤ (k.lo ++ [t]).length
    rw [e, List.length_append]; omega
  unfold a1g
  split
  · have h := b3t (m := m) (ret := ret) ih j
    unfold a6j
    split
    · exact h
    · show j.lo.length ≤ ((t8 (l.map (j7 m ret)) j).2.lo.take j.lo.length).length
      rw [List.length_take]; omega
  split
  · exact brg _ _ (y3 _ _ _)
  split
  · exact brg _ _ (b2b _ _ _)
  split
  · rw [b19]; exact Nat.le_refl _
  split
  · have h := b3t (m := m) (ret := ret) (l := l.drop 1) (fun y hy => ih y (List.mem_of_mem_drop hy)) (ofJ m (l.getD 0 z0T) (fun t => isT t 2) j).2
    rw [w8] at h
    rw [List.map_drop] at h
    exact h
  split
  · unfold b1q
    dsimp only
    rw [List.length_take, w8, w8]
    have hf : ∀ k : JS, k.lo.length ≤ ((l.map (j7 m ret)).getD 2 (fun j => (z0T, j)) k).2.lo.length := fun k => by
      by_cases h2 : 2 < l.length
      · rw [show (l.map (j7 m ret)).getD 2 (fun j => (z0T, j)) = j7 m ret l[2] by simp [List.getD, h2]]
        exact ih _ (List.getElem_mem h2) k
      · rw [show (l.map (j7 m ret)).getD 2 (fun j => (z0T, j)) = (fun j => (z0T, j)) by simp [List.getD, h2]]
        exact Nat.le_refl _
    have h := hf (a2q (tyT 1) (ofJ m (l.getD 1 z0T) (fun t => isT t 1) (ofJ m (l.getD 0 z0T) (fun t => isT t 1) j).2).2)
    have h0 := brg (tyT 1) (ofJ m (l.getD 1 z0T) (fun t => isT t 1) (ofJ m (l.getD 0 z0T) (fun t => isT t 1) j).2).2 (by rw [w8, w8])
    omega
  split
  · rw [w8]; exact Nat.le_refl _
  split
  · rw [w8]; exact Nat.le_refl _
  · rw [b62]; exact Nat.le_refl _
theorem a1s {α : Type} (f : JS → α × JS) : ∀ (fs : List (JS → α × JS)) (j : JS), t8 (fs ++ [f]) j = ((t8 fs j).1 ++ [(f (t8 fs j).2).1], (f (t8 fs j).2).2)
  | [], j => rfl
  | g :: fs, j => by
    rw [List.cons_append, t8, a1s f fs, t8]
    rfl
theorem a8i {α : Type} : ∀ (fs : List (JS → α × JS)) (j : JS), (t8 fs j).1.length = fs.length
  | [], j => rfl
  | g :: fs, j => by rw [t8]; simp [a8i fs]
end Go.Proofs.YthmdllhhmhbhbaaGreatDoor.am
end
section
namespace Go.Proofs.YthmdllhhmhbhbaaGreatDoor.am
open vt
noncomputable abbrev vT3i (r : VT × Int × Int) : AV := .tup [.agg (ta r.1), .c (.pv (I r.2.1)), .c (.pv (I r.2.2))]
abbrev zTb : AO := .box [.pv (I 0), .pv (I 0), .pv (Sx ⟨#[]⟩), .pv .nilS, .pv (I 0), .pv (I 0)]
end Go.Proofs.YthmdllhhmhbhbaaGreatDoor.am
end
