import Derived.Test.YthmdllhhmhbhbaaGreatDoorPkR8
import Derived.Test.YthmdllhhmhbhbaaGreatDoorPkR7
set_option maxRecDepth 100000
set_option maxHeartbeats 4000000
section
namespace Go.Proofs.YthmdllhhmhbhbaaGreatDoor.am
open Go.ChangeShapes Go.WideShapes Go.ChangeAt Go.RowKit
open vt
set_option linter.unusedVariables false
set_option linter.unusedSimpArgs false
theorem b5m (m : VT) (hms : m.size ≤ 900000) (L E : List VT) (x : Lab) (l : List VT) (hx : x.ok) (a : VT) (ha : p6 a) (F : List VT) : Row Tryz.prog 146 [.v (.c (.ptr 0 0)), vT (.mk x l), .v (.c (.ptr 2 0)), fnK 3] [bxV m L 0 0, arJ E, bxT (.mk ⟨x.k, x.n, ⟨#[]⟩, 0, 0⟩ F), bxK [a]] (vTO (b4o m x a).ty (b4o m x a).ok) [some (bxV m L (if (b4o m x a).er = 0 then 0 else x.f) (b4o m x a).er), some (arJ E), some (bxT (.mk ⟨x.k, (b4o m x a).n, ⟨#[]⟩, 0, 0⟩ F)), some (bxK [a])] := by
  obtain ⟨ax, al⟩ := a
  have hax := ((Tr.all_mk _ _ _).1 ha).1
  have h0 := y4 [.mk ax al] 0 ax al rfl
  rw [show ((0 : Nat) : Int) = 0 from rfl] at h0
  unfold b4o
  rw [Tr.lab, Tr.kids]
  by_cases a4 : ax.k = 4; rotate_left
  · rw [if_neg (fun h => a4 h.1)]
    obtain ⟨mx, ml⟩ := m
    refine e8 Tryz.func146 rfl rfl (Nat.le_of_ble_eq_true rfl) ?_
    repeat' (first | refine d7 ?_ | refine b9 ?_ | refine a8 ?_ | refine b8 ?_ | refine f7 rfl ?_ | refine f6 rfl ?_ | ((first | refine d6 (fun K hK => ?_) | refine d8 f8 (fun K hK => ?_) | refine b7 (cb h0 3 ?_) | refine a6 (db h0 3 ?_) | fail); simp -implicitDefEqProofs [a4]) | refine hK _ ?_ | refine hK _ _ (by rfl) ?_ | fail)
    refine e7 (j6 [0, 1, 2, 3] ?_); simp -implicitDefEqProofs [l4, g7, g9] <;> try rfl
  by_cases a0 : al.length = 0; rotate_left
  · have a0' : ¬ (al.length : Int) = 0 := by omega
    rw [if_neg (fun h => a0 h.2)]
    obtain ⟨mx, ml⟩ := m
    refine e8 Tryz.func146 rfl rfl (Nat.le_of_ble_eq_true rfl) ?_
    repeat' (first | refine d7 ?_ | refine b9 ?_ | refine a8 ?_ | refine b8 ?_ | refine f7 rfl ?_ | refine f6 rfl ?_ | ((first | refine d6 (fun K hK => ?_) | refine d8 f8 (fun K hK => ?_) | refine b7 (cb h0 3 ?_) | refine a6 (db h0 3 ?_) | fail); simp -implicitDefEqProofs [a4, a0, a0']) | refine hK _ ?_ | refine hK _ _ (by rfl) ?_ | fail)
    refine e7 (j6 [0, 1, 2, 3] ?_); simp -implicitDefEqProofs [l4, g7, g9] <;> try rfl
  obtain rfl := List.eq_nil_of_length_eq_zero a0
  rw [if_pos ⟨a4, rfl⟩]
  have hin := b7f (m := m) (by omega) hx ax.n
  have hfi := b1k m (by omega) (a3h m x ax.n) hin
  have hnu := b2j m (by omega) L E 0 0 ax.n hax.2.1.2 x.s
  have hfl := a03 m L E 0 0 x l 8
  have hfp : c2m m x ax.n = if (fldA m (a3h m x ax.n)).isSome = true ∧ a3h m x ax.n / 64 = ax.n then fldA m (a3h m x ax.n) else none := rfl
  have hpos : (fldA m (a3h m x ax.n)).isSome = true → 0 ≤ a3h m x ax.n := fun h => c0y h
  have hsz := a9q m (a3h m x ax.n)
  have hnm : ¬ x.s = ⟨#[]⟩ → b7z m ax.n x.s = a3h m x ax.n := fun h => by unfold a3h; rw [if_neg h]
  have hn0 : x.s = ⟨#[]⟩ → x.n = a3h m x ax.n := fun h => by unfold a3h; rw [if_pos h]
  obtain ⟨n, hn⟩ : ∃ n, a3h m x ax.n = n := ⟨_, rfl⟩
  rw [hn] at hin hfi hfp hpos hsz hnm hn0 ⊢
  rw [hfp]
  cases hF : fldA m n with
  | none =>
    rw [hF] at hfi
    rw [if_neg (by simp)]
    simp only [Option.getD_none, Option.isSome_none] at hfi
    rw [if_pos rfl, if_pos rfl] at hfl
    clear hsz hpos hfp hF hn
    obtain ⟨mx, ml⟩ := m
    by_cases cs : x.s = ⟨#[]⟩
    · have e := hn0 cs
      clear hnm hn0 hnu
      subst e
      refine e8 Tryz.func146 rfl rfl (Nat.le_of_ble_eq_true rfl) ?_
      repeat' (first | refine d7 ?_ | refine b9 ?_ | refine a8 ?_ | refine b8 ?_ | refine f7 rfl ?_ | refine f6 rfl ?_ | ((first | refine d6 (fun K hK => ?_) | refine d8 f8 (fun K hK => ?_) | refine b7 (cb h0 3 ?_) | refine a6 (db h0 3 ?_) | refine b7 (cp hfi ?_) | refine a6 (dp hfi ?_) | refine b7 (cg hfl [0,1] ?_) | refine a6 (dg hfl [0,1] ?_) | fail); simp -implicitDefEqProofs [a4, cs]) | refine hK _ ?_ | refine hK _ _ (by rfl) ?_ | fail)
      refine e7 (j6 [0, 1, 2, 3] ?_); simp -implicitDefEqProofs [l4, g7, g9] <;> try rfl
    · have e := hnm cs
      rw [e] at hnu
      clear hnm hn0 e
      refine e8 Tryz.func146 rfl rfl (Nat.le_of_ble_eq_true rfl) ?_
      repeat' (first | refine d7 ?_ | refine b9 ?_ | refine a8 ?_ | refine b8 ?_ | refine f7 rfl ?_ | refine f6 rfl ?_ | ((first | refine d6 (fun K hK => ?_) | refine d8 f8 (fun K hK => ?_) | refine b7 (cb h0 3 ?_) | refine a6 (db h0 3 ?_) | refine b7 (cg hnu [0,1] ?_) | refine a6 (dg hnu [0,1] ?_) | refine b7 (cp hfi ?_) | refine a6 (dp hfi ?_) | refine b7 (cg hfl [0,1] ?_) | refine a6 (dg hfl [0,1] ?_) | fail); simp -implicitDefEqProofs [a4, cs]) | refine hK _ ?_ | refine hK _ _ (by rfl) ?_ | fail)
      refine e7 (j6 [0, 1, 2, 3] ?_); simp -implicitDefEqProofs [l4, g7, g9] <;> try rfl
  | some k =>
    rw [hF] at hfi hpos hsz
    simp only [Option.getD_some, Option.isSome_some] at hfi hpos hsz
    have hp := hpos trivial
    have wq : IntKind.i64.wrap (n.tdiv 64) = n / 64 := by
      rw [Int.tdiv_eq_ediv_of_nonneg hp]
      exact v6 _ (by omega) (by omega)
    have hba := a1x k (by omega)
    obtain ⟨kx, kl⟩ := k
    obtain ⟨⟨ux, ul⟩, hu⟩ : ∃ t, a0r (.mk kx kl) = t := ⟨_, rfl⟩
    rw [hu] at hba
    by_cases hr : n / 64 = ax.n; rotate_left
    · rw [if_neg (fun h => hr h.2)]
      rw [if_pos rfl, if_pos rfl] at hfl
      clear hsz hpos hfp hF hn hu hba
      obtain ⟨mx, ml⟩ := m
      by_cases cs : x.s = ⟨#[]⟩
      · have e := hn0 cs
        clear hnm hn0 hnu
        subst e
        refine e8 Tryz.func146 rfl rfl (Nat.le_of_ble_eq_true rfl) ?_
        repeat' (first | refine d7 ?_ | refine b9 ?_ | refine a8 ?_ | refine b8 ?_ | refine f7 rfl ?_ | refine f6 rfl ?_ | ((first | refine d6 (fun K hK => ?_) | refine d8 f8 (fun K hK => ?_) | refine b7 (cb h0 3 ?_) | refine a6 (db h0 3 ?_) | refine b7 (cp hfi ?_) | refine a6 (dp hfi ?_) | refine b7 (cg hfl [0,1] ?_) | refine a6 (dg hfl [0,1] ?_) | fail); simp -implicitDefEqProofs [a4, cs, wq, hr]) | refine hK _ ?_ | refine hK _ _ (by rfl) ?_ | fail)
        refine e7 (j6 [0, 1, 2, 3] ?_); simp -implicitDefEqProofs [l4, g7, g9] <;> try rfl
      · have e := hnm cs
        rw [e] at hnu
        clear hnm hn0 e
        refine e8 Tryz.func146 rfl rfl (Nat.le_of_ble_eq_true rfl) ?_
        repeat' (first | refine d7 ?_ | refine b9 ?_ | refine a8 ?_ | refine b8 ?_ | refine f7 rfl ?_ | refine f6 rfl ?_ | ((first | refine d6 (fun K hK => ?_) | refine d8 f8 (fun K hK => ?_) | refine b7 (cb h0 3 ?_) | refine a6 (db h0 3 ?_) | refine b7 (cg hnu [0,1] ?_) | refine a6 (dg hnu [0,1] ?_) | refine b7 (cp hfi ?_) | refine a6 (dp hfi ?_) | refine b7 (cg hfl [0,1] ?_) | refine a6 (dg hfl [0,1] ?_) | fail); simp -implicitDefEqProofs [a4, cs, wq, hr]) | refine hK _ ?_ | refine hK _ _ (by rfl) ?_ | fail)
        refine e7 (j6 [0, 1, 2, 3] ?_); simp -implicitDefEqProofs [l4, g7, g9] <;> try rfl
    rw [if_pos ⟨rfl, hr⟩]
    dsimp only
    rw [hu]
    clear hsz hpos hfp hF hn hu hfl
    obtain ⟨mx, ml⟩ := m
    by_cases cs : x.s = ⟨#[]⟩
    · have e := hn0 cs
      clear hnm hn0 hnu
      subst e
      refine e8 Tryz.func146 rfl rfl (Nat.le_of_ble_eq_true rfl) ?_
      repeat' (first | refine d7 ?_ | refine b9 ?_ | refine a8 ?_ | refine b8 ?_ | refine f7 rfl ?_ | refine f6 rfl ?_ | ((first | refine d6 (fun K hK => ?_) | refine d8 f8 (fun K hK => ?_) | refine b7 (cb h0 3 ?_) | refine a6 (db h0 3 ?_) | refine b7 (cp hfi ?_) | refine a6 (dp hfi ?_) | refine b7 (cp hba ?_) | refine a6 (dp hba ?_) | fail); simp -implicitDefEqProofs [a4, cs, wq, hr]) | refine hK _ ?_ | refine hK _ _ (by rfl) ?_ | fail)
      refine e7 (j6 [0, 1, 2, 3] ?_); simp -implicitDefEqProofs [l4, g7, g9] <;> try rfl
    · have e := hnm cs
      rw [e] at hnu
      clear hnm hn0 e
      refine e8 Tryz.func146 rfl rfl (Nat.le_of_ble_eq_true rfl) ?_
      repeat' (first | refine d7 ?_ | refine b9 ?_ | refine a8 ?_ | refine b8 ?_ | refine f7 rfl ?_ | refine f6 rfl ?_ | ((first | refine d6 (fun K hK => ?_) | refine d8 f8 (fun K hK => ?_) | refine b7 (cb h0 3 ?_) | refine a6 (db h0 3 ?_) | refine b7 (cg hnu [0,1] ?_) | refine a6 (dg hnu [0,1] ?_) | refine b7 (cp hfi ?_) | refine a6 (dp hfi ?_) | refine b7 (cp hba ?_) | refine a6 (dp hba ?_) | fail); simp -implicitDefEqProofs [a4, cs, wq, hr]) | refine hK _ ?_ | refine hK _ _ (by rfl) ?_ | fail)
      refine e7 (j6 [0, 1, 2, 3] ?_); simp -implicitDefEqProofs [l4, g7, g9] <;> try rfl
theorem b9i (m : VT) (hm : p6 m) (hms : m.size ≤ 1000000) (L E : List VT) (x : Lab) (l : List VT) (p : List VT) (hlp : l.length = p.length) (h1 : 0 < p.length) (hp : ∀ a ∈ p, p6 a ∧ a.size ≤ 900000) (hpl : p.length ≤ 900000) : Row Tryz.prog 147 [.v (.c (.ptr 0 0)), vT (.mk x l), fnK 2] [bxV m L 0 0, arJ E, bxK p] (vTO (b4y m x p).ty (b4y m x p).ok) [some (bxV m L (if (b4y m x p).er = 0 then 0 else x.f) (b4y m x p).er), some (arJ E), some (bxK p)] := by
  obtain ⟨⟨ax, al⟩, ha⟩ : ∃ a, p[0]? = some a := ⟨_, List.getElem?_eq_getElem h1⟩
  have ha' := (List.getElem?_eq_some_iff.1 ha).2
  have hg : p.getD 0 z0T = .mk ax al := by simp [List.getD, ha]
  have hpa := hp _ (List.mem_of_getElem? ha)
  have h0 := y4 p 0 ax al ha
  rw [show ((0 : Nat) : Int) = 0 from rfl] at h0
  have hcel := a1y m (.mk ⟨3, p.length, ⟨#[]⟩, 0, 0⟩ [.mk ax al]) hm hms ((Tr.all_mk _ _ _).2 ⟨by simp [Lab.ok]; omega, fun y hy => by simp at hy; subst hy; exact hpa.1⟩) (by rw [Tr.size_mk]; simp only [List.map_cons, List.map_nil, List.sum_cons, List.sum_nil]; omega)
  have hfl := a03 m L E 0 0 x l 11
  rw [if_pos rfl, if_pos rfl] at hfl
  unfold b4y
  rw [hg]
  obtain ⟨c, hc⟩ : ∃ c, a1j m (.mk ⟨3, p.length, ⟨#[]⟩, 0, 0⟩ [.mk ax al]) = c := ⟨_, rfl⟩
  rw [hc] at hcel ⊢
  clear hc hg
  have hno : ∀ (j : Nat) y, 1 ≤ j → p[j]? = some y → same (.mk ax al) y = false → (p.drop 1).all (fun a => same (.mk ax al) a) = false := fun j y h1 h2 h3 => c0t h1 h2 h3
  have hyes : (∀ (j : Nat) y, 1 ≤ j → p[j]? = some y → same (.mk ax al) y = true) → (p.drop 1).all (fun a => same (.mk ax al) a) = true := fun h => b63 (fun j y h1 h2 => h j y h1 h2)
  obtain ⟨R, hR⟩ : ∃ R, (p.drop 1).all (fun a => same (.mk ax al) a) = R := ⟨_, rfl⟩
  rw [hR] at hyes ⊢
  simp only [hR] at hno
  clear hR
  have wl : IntKind.i64.wrap ((p.length : Nat) : Int) = (p.length : Nat) := v6 _ (by omega) (by omega)
  obtain ⟨mx, ml⟩ := m
  refine e8 Tryz.func147 rfl rfl (Nat.le_of_ble_eq_true rfl) ?_
  repeat (first | refine d7 ?_ | refine b9 ?_ | refine a8 ?_ | refine b8 ?_ | refine f7 rfl ?_ | refine f6 rfl ?_ | ((first | refine d6 (fun K hK => ?_) | refine d8 f8 (fun K hK => ?_) | fail); simp -implicitDefEqProofs; first | refine hK _ ?_ | refine hK _ _ (by rfl) ?_ | fail) | fail)
  refine v7 (ι := Nat) (fun k => a0w [(0, .v (.c (.ptr 0 0))), (2, fnK 2), (4, .v (.c (.ptr 3 0))), (6, .v (.c (.ptr 4 0))), (7, vB false), (8, vI (k : Nat))] [some (bxV (.mk mx ml) L 0 0), some (arJ E), some (bxK p), some (.box (ta (.mk x l))), some (.box (ta z0T))]) (fun k => 1 ≤ k ∧ k ≤ p.length ∧ ∀ (j : Nat) y, 1 ≤ j → j < k → p[j]? = some y → same (.mk ax al) y = true) (fun k => p.length - k) 1 ⟨Nat.le_refl _, by omega, fun j y h1 h2 => by omega⟩ (i6 [0, 1, 2, 3, 4] (by simp -implicitDefEqProofs) (by simp -implicitDefEqProofs) (by decide) rfl (by simp)) (fun Z hI k hk => ?_)
  obtain ⟨hk1, hk, hz⟩ := hk
  by_cases hkl : k < p.length; rotate_left
  · have : k = p.length := by omega
    subst this
    have hR := hyes (fun j y g1 g2 => hz j y g1 (List.getElem?_eq_some_iff.1 g2).1 g2)
    subst hR
    clear hyes hno
    by_cases c0 : c = 0
    · repeat' (first | refine d7 ?_ | refine b9 ?_ | refine a8 ?_ | refine b8 ?_ | refine f7 rfl ?_ | refine f6 rfl ?_ | ((first | refine d6 (fun K hK => ?_) | refine d8 f8 (fun K hK => ?_) | refine b7 (cb h0 2 ?_) | refine a6 (db h0 2 ?_) | refine b7 (cp hcel ?_) | refine a6 (dp hcel ?_) | refine b7 (cg hfl [0,1] ?_) | refine a6 (dg hfl [0,1] ?_) | fail); simp -implicitDefEqProofs [hlp, c0, wl]) | refine hK _ ?_ | refine hK _ _ (by rfl) ?_ | fail)
      refine e7 (j6 [0, 1, 2] ?_); simp -implicitDefEqProofs [l4, g7, g9, c0] <;> try rfl
    · repeat' (first | refine d7 ?_ | refine b9 ?_ | refine a8 ?_ | refine b8 ?_ | refine f7 rfl ?_ | refine f6 rfl ?_ | ((first | refine d6 (fun K hK => ?_) | refine d8 f8 (fun K hK => ?_) | refine b7 (cb h0 2 ?_) | refine a6 (db h0 2 ?_) | refine b7 (cp hcel ?_) | refine a6 (dp hcel ?_) | fail); simp -implicitDefEqProofs [hlp, c0, wl]) | refine hK _ ?_ | refine hK _ _ (by rfl) ?_ | fail)
      refine e7 (j6 [0, 1, 2] ?_); simp -implicitDefEqProofs [l4, g7, g9, c0] <;> try rfl
  have hkl' : ((k : Nat) : Int) < (p.length : Nat) := by omega
  obtain ⟨⟨bx, bl⟩, hb⟩ : ∃ a, p[k]? = some a := ⟨_, List.getElem?_eq_getElem hkl⟩
  have hkp := y4 p k bx bl hb
  have w2 : IntKind.i64.wrap ((k : Nat) + 1 : Int) = (k : Nat) + 1 := v6 _ (by omega) (by omega)
  have hs := a1u (.mk ax al) (by omega) (.mk bx bl) (by have := (hp _ (List.mem_of_getElem? hb)).2; omega)
  obtain ⟨q, hq⟩ : ∃ q, same (.mk ax al) (.mk bx bl) = q := ⟨_, rfl⟩
  rw [hq] at hs
  cases q with
  | true =>
    clear hyes hno
    repeat' (first | refine d7 ?_ | refine b9 ?_ | refine a8 ?_ | refine b8 ?_ | refine f7 rfl ?_ | refine f6 rfl ?_ | ((first | refine d6 (fun K hK => ?_) | refine d8 f8 (fun K hK => ?_) | refine b7 (cb h0 2 ?_) | refine a6 (db h0 2 ?_) | refine b7 (cb hkp 2 ?_) | refine a6 (db hkp 2 ?_) | refine b7 (cp hs ?_) | refine a6 (dp hs ?_) | fail); simp -implicitDefEqProofs [hlp, hkl, hkl', w2]) | refine hK _ ?_ | refine hK _ _ (by rfl) ?_ | fail)
    refine ⟨k + 1, ⟨by omega, by omega, fun j y g1 g2 g3 => ?_⟩, (by dsimp only; omega), ?_⟩
    · by_cases hj : j = k
      · subst hj; rw [hb] at g3; cases g3; exact hq
      · exact hz j y g1 (by omega) g3
    · rw [hI]; exact i6 [0, 1, 2, 3, 4] (by simp -implicitDefEqProofs) (by simp -implicitDefEqProofs) (by decide) rfl (by simp)
  | false =>
    have hR := hno k _ hk1 hb hq
    subst hR
    clear hyes hno
    repeat' (first | refine d7 ?_ | refine b9 ?_ | refine a8 ?_ | refine b8 ?_ | refine f7 rfl ?_ | refine f6 rfl ?_ | ((first | refine d6 (fun K hK => ?_) | refine d8 f8 (fun K hK => ?_) | refine b7 (cb h0 2 ?_) | refine a6 (db h0 2 ?_) | refine b7 (cb hkp 2 ?_) | refine a6 (db hkp 2 ?_) | refine b7 (cp hs ?_) | refine a6 (dp hs ?_) | fail); simp -implicitDefEqProofs [hlp, hkl, hkl']) | refine hK _ ?_ | refine hK _ _ (by rfl) ?_ | fail)
    refine e7 (j6 [0, 1, 2] ?_); simp -implicitDefEqProofs [l4, g7, g9] <;> try rfl
theorem b9j (m : VT) (hm : p6 m) (hms : m.size ≤ 900000) (L E : List VT) (hE : OkV L E) (hL : ∀ t ∈ L, t.size ≤ 900000) (hLl : L.length ≤ 900000) (x : Lab) (l : List VT) (hx : x.ok) (p : List VT) (hlp : l.length = p.length) (hp : ∀ a ∈ p, p6 a ∧ a.size ≤ 900000) (hpl : p.length ≤ 900000) (hsh : s6 x l.length = true) (hkn : a60 m L.length x = true) (F : List VT) : Row Tryz.prog 102 [.v (.c (.ptr 0 0)), vT (.mk x l), .v (.c (.ptr 2 0)), fnK 3] [bxV m L 0 0, arJ E, bxT (.mk ⟨x.k, x.n, ⟨#[]⟩, 0, 0⟩ F), bxK p] (vTO (a0d m L x p).ty (a0d m L x p).ok) [some (bxV m L (if (a0d m L x p).er = 0 then 0 else x.f) (a0d m L x p).er), some (arJ E), some (bxT (.mk ⟨x.k, (a0d m L x p).n, ⟨#[]⟩, 0, 0⟩ F)), some (bxK p)] := by
  obtain ⟨n7, n89, n15, n16⟩ := c4y hkn
  have hmk : m.kids.length < m.size := by obtain ⟨mx, ml⟩ := m; exact Tr.len_size (x := mx) (l := ml)
  have wm : IntKind.i64.wrap ((m.kids.length : Nat) : Int) = (m.kids.length : Nat) := v6 _ (by omega) (by omega)
  unfold a0d
  by_cases c7 : x.k = 7
  · rw [if_pos c7]
    obtain ⟨g0, g1⟩ := n7 c7
    obtain ⟨n, hn⟩ : ∃ n : Nat, x.n = n := ⟨x.n.toNat, by omega⟩
    rw [hn, Int.toNat_natCast]
    obtain ⟨j, hj⟩ : ∃ j, L.length - 1 - n = j := ⟨_, rfl⟩
    have hjl : j < L.length := by omega
    obtain ⟨⟨ax, al⟩, ha⟩ : ∃ a, L[j]? = some a := ⟨_, List.getElem?_eq_getElem hjl⟩
    have hae : E[j]? = some (.mk ax al) := by rw [okV_at hE hjl]; exact ha
    have ha' := (List.getElem?_eq_some_iff.1 hae).2
    have hjE := (List.getElem?_eq_some_iff.1 hae).1
    have hjl' : ((j : Nat) : Int) < (L.length : Nat) := by omega
    rw [hj, show L.getD j z0T = .mk ax al by simp [List.getD, ha]]
    have hb := a1x (.mk ax al) (by have := hL _ (List.mem_of_getElem? ha); omega)
    have w0 : IntKind.i64.wrap ((n : Nat) : Int) = (n : Nat) := v6 _ (by omega) (by omega)
    have w1 : IntKind.i64.wrap ((L.length : Nat) - 1 : Int) = (L.length : Nat) - 1 := v6 _ (by omega) (by omega)
    have w2 : IntKind.i64.wrap ((L.length : Nat) - 1 - (n : Nat) : Int) = (j : Nat) := by rw [v6 _ (by omega) (by omega)]; omega
    obtain ⟨⟨bx, bl⟩, hbb⟩ : ∃ b, a0r (.mk ax al) = b := ⟨_, rfl⟩
    rw [hbb] at hb ⊢
    clear hbb n7 n89 n15 n16 hp
    obtain ⟨mx, ml⟩ := m
    refine e8 Tryz.func102 rfl rfl (Nat.le_of_ble_eq_true rfl) ?_
    repeat' (first | refine d7 ?_ | refine b9 ?_ | refine a8 ?_ | refine b8 ?_ | refine f7 rfl ?_ | refine f6 rfl ?_ | ((first | refine d6 (fun K hK => ?_) | refine d8 f8 (fun K hK => ?_) | refine b7 (cp hb ?_) | refine a6 (dp hb ?_) | fail); simp -implicitDefEqProofs [c7, hn, hE.2, hjl, hjl', hjE, hae, ha', w0, w1, w2]) | refine hK _ ?_ | refine hK _ _ (by rfl) ?_ | fail)
    refine e7 (j6 [0, 1, 2, 3] ?_); simp -implicitDefEqProofs [l4, g7, g9, c7, hn] <;> try rfl
  rw [if_neg c7]
  by_cases c8 : x.k = 8
  · rw [if_pos c8]
    obtain ⟨g0, dx, ⟨ex, el⟩, hd⟩ := n89 (.inl c8)
    obtain ⟨n, hn⟩ : ∃ n : Nat, x.n = n := ⟨x.n.toNat, by omega⟩
    rw [hn, Int.toNat_natCast] at hd ⊢
    have hnl := (List.getElem?_eq_some_iff.1 hd).1
    have hd' := (List.getElem?_eq_some_iff.1 hd).2
    rw [show m.kids.getD n z0T = .mk dx [.mk ex el] by simp [List.getD, hd], Tr.kids]
    have hl := a8d ex el
    rw [show [Tr.mk ex el].getD 0 z0T = .mk ex el from rfl]
    have w0 : IntKind.i64.wrap ((n : Nat) : Int) = (n : Nat) := v6 _ (by omega) (by omega)
    obtain ⟨⟨bx, bl⟩, hbb⟩ : ∃ b, a59 (.mk ex el) = b := ⟨_, rfl⟩
    rw [hbb] at hl ⊢
    clear hbb n7 n89 n15 n16 hp
    obtain ⟨mx, ml⟩ := m
    simp only [Tr.kids] at hnl hd hd'
    refine e8 Tryz.func102 rfl rfl (Nat.le_of_ble_eq_true rfl) ?_
    repeat' (first | refine d7 ?_ | refine b9 ?_ | refine a8 ?_ | refine b8 ?_ | refine f7 rfl ?_ | refine f6 rfl ?_ | ((first | refine d6 (fun K hK => ?_) | refine d8 f8 (fun K hK => ?_) | refine b7 (cp hl ?_) | refine a6 (dp hl ?_) | fail); simp -implicitDefEqProofs [c8, hn, hnl, hd, hd', w0]) | refine hK _ ?_ | refine hK _ _ (by rfl) ?_ | fail)
    refine e7 (j6 [0, 1, 2, 3] ?_); simp -implicitDefEqProofs [l4, g7, g9, c8, hn] <;> try rfl
  rw [if_neg c8]
  by_cases c9 : x.k = 9
  · rw [if_pos c9]
    obtain ⟨g0, dx, ⟨ex, el⟩, hd⟩ := n89 (.inr c9)
    obtain ⟨n, hn⟩ : ∃ n : Nat, x.n = n := ⟨x.n.toNat, by omega⟩
    rw [hn, Int.toNat_natCast] at hd ⊢
    have hnl := (List.getElem?_eq_some_iff.1 hd).1
    have hd' := (List.getElem?_eq_some_iff.1 hd).2
    have s1 := p8 (List.mem_of_getElem? hd)
    have s2 := Tr.size_at (x := dx) (l := [.mk ex el]) (i := 0) rfl
    rw [show m.kids.getD n z0T = .mk dx [.mk ex el] by simp [List.getD, hd], Tr.kids]
    have hl := a1x (.mk ex el) (by omega)
    rw [show [Tr.mk ex el].getD 0 z0T = .mk ex el from rfl]
    have w0 : IntKind.i64.wrap ((n : Nat) : Int) = (n : Nat) := v6 _ (by omega) (by omega)
    obtain ⟨⟨bx, bl⟩, hbb⟩ : ∃ b, a0r (.mk ex el) = b := ⟨_, rfl⟩
    rw [hbb] at hl ⊢
    clear hbb n7 n89 n15 n16 hp
    obtain ⟨mx, ml⟩ := m
    simp only [Tr.kids] at hnl hd hd'
    refine e8 Tryz.func102 rfl rfl (Nat.le_of_ble_eq_true rfl) ?_
    repeat' (first | refine d7 ?_ | refine b9 ?_ | refine a8 ?_ | refine b8 ?_ | refine f7 rfl ?_ | refine f6 rfl ?_ | ((first | refine d6 (fun K hK => ?_) | refine d8 f8 (fun K hK => ?_) | refine b7 (cp hl ?_) | refine a6 (dp hl ?_) | fail); simp -implicitDefEqProofs [c9, hn, hnl, hd, hd', w0]) | refine hK _ ?_ | refine hK _ _ (by rfl) ?_ | fail)
    refine e7 (j6 [0, 1, 2, 3] ?_); simp -implicitDefEqProofs [l4, g7, g9, c9, hn] <;> try rfl
  rw [if_neg c9]
  clear n7 n89
  by_cases c10 : x.k = 10
  · rw [if_pos c10]
    have hl2 : p.length = 2 := by rw [hlp] at hsh; unfold s6 at hsh; simp [c10] at hsh; exact hsh.1.1
    obtain ⟨⟨ax, al⟩, ⟨bx, bl⟩, rfl⟩ := a5w hl2
    have ht := c2e m L E x l (.mk ax al) (.mk bx bl)
    rw [show [Tr.mk ax al, .mk bx bl].getD 0 z0T = .mk ax al from rfl, show [Tr.mk ax al, .mk bx bl].getD 1 z0T = .mk bx bl from rfl]
    obtain ⟨⟨⟨ux, ul⟩, q⟩, hu⟩ : ∃ t, b32 x.n (.mk ax al) (.mk bx bl) = t := ⟨_, rfl⟩
    rw [hu] at ht ⊢
    dsimp only at ht ⊢
    clear hu n15 n16 hp
    obtain ⟨mx, ml⟩ := m
    refine e8 Tryz.func102 rfl rfl (Nat.le_of_ble_eq_true rfl) ?_
    repeat' (first | refine d7 ?_ | refine b9 ?_ | refine a8 ?_ | refine b8 ?_ | refine f7 rfl ?_ | refine f6 rfl ?_ | ((first | refine d6 (fun K hK => ?_) | refine d8 f8 (fun K hK => ?_) | refine b7 (cg ht [0,1,3] ?_) | refine a6 (dg ht [0,1,3] ?_) | fail); simp -implicitDefEqProofs [c10]) | refine hK _ ?_ | refine hK _ _ (by rfl) ?_ | fail)
    refine e7 (j6 [0, 1, 2, 3] ?_); simp -implicitDefEqProofs [l4, g7, g9, c10] <;> try rfl
  rw [if_neg c10]
  by_cases c11 : x.k = 11
  · rw [if_pos c11]
    have hl1 : p.length = 1 := by rw [hlp] at hsh; unfold s6 at hsh; simp [c11] at hsh; exact hsh.1
    obtain ⟨⟨ax, al⟩, rfl⟩ := s9 hl1
    have ht := c2d m L E x l (.mk ax al)
    rw [show [Tr.mk ax al].getD 0 z0T = .mk ax al from rfl]
    obtain ⟨q, hu⟩ : ∃ t, oneB x.n (.mk ax al) = t := ⟨_, rfl⟩
    rw [hu] at ht ⊢
    clear hu n15 n16 hp
    obtain ⟨mx, ml⟩ := m
    refine e8 Tryz.func102 rfl rfl (Nat.le_of_ble_eq_true rfl) ?_
    repeat' (first | refine d7 ?_ | refine b9 ?_ | refine a8 ?_ | refine b8 ?_ | refine f7 rfl ?_ | refine f6 rfl ?_ | ((first | refine d6 (fun K hK => ?_) | refine d8 f8 (fun K hK => ?_) | refine b7 (cg ht [0,1,3] ?_) | refine a6 (dg ht [0,1,3] ?_) | fail); simp -implicitDefEqProofs [c11]) | refine hK _ ?_ | refine hK _ _ (by rfl) ?_ | fail)
    refine e7 (j6 [0, 1, 2, 3] ?_); simp -implicitDefEqProofs [l4, g7, g9, c11] <;> try rfl
  rw [if_neg c11]
  by_cases c12 : x.k = 12
  · rw [if_pos c12]
    have hl2 : p.length = 2 := by rw [hlp] at hsh; unfold s6 at hsh; simp [c12] at hsh; exact hsh
    obtain ⟨⟨ax, al⟩, ⟨bx, bl⟩, rfl⟩ := a5w hl2
    have ht := b5o m L E (.mk ax al) (.mk bx bl)
    rw [show [Tr.mk ax al, .mk bx bl].getD 0 z0T = .mk ax al from rfl, show [Tr.mk ax al, .mk bx bl].getD 1 z0T = .mk bx bl from rfl]
    obtain ⟨⟨ux, ul⟩, hu⟩ : ∃ t, (a58 (.mk ax al) (.mk bx bl)).getD z0T = t := ⟨_, rfl⟩
    obtain ⟨q, hq⟩ : ∃ t, (a58 (.mk ax al) (.mk bx bl)).isSome = t := ⟨_, rfl⟩
    rw [hu, hq] at ht ⊢
    clear hu hq n15 n16 hp
    obtain ⟨mx, ml⟩ := m
    refine e8 Tryz.func102 rfl rfl (Nat.le_of_ble_eq_true rfl) ?_
    repeat' (first | refine d7 ?_ | refine b9 ?_ | refine a8 ?_ | refine b8 ?_ | refine f7 rfl ?_ | refine f6 rfl ?_ | ((first | refine d6 (fun K hK => ?_) | refine d8 f8 (fun K hK => ?_) | refine b7 (cg ht [0,1,3] ?_) | refine a6 (dg ht [0,1,3] ?_) | fail); simp -implicitDefEqProofs [c12]) | refine hK _ ?_ | refine hK _ _ (by rfl) ?_ | fail)
    refine e7 (j6 [0, 1, 2, 3] ?_); simp -implicitDefEqProofs [l4, g7, g9, c12] <;> try rfl
  rw [if_neg c12]
  by_cases c13 : x.k = 13
  · rw [if_pos c13]
    have hl1 : p.length = 1 := by rw [hlp] at hsh; unfold s6 at hsh; simp [c13] at hsh; exact hsh
    obtain ⟨⟨ax, al⟩, rfl⟩ := s9 hl1
    have ht := b5m m hms L E x l hx (.mk ax al) (hp (.mk ax al) (by simp)).1 F
    rw [show [Tr.mk ax al].getD 0 z0T = .mk ax al from rfl]
    obtain ⟨⟨⟨ux, ul⟩, q, n, er⟩, hu⟩ : ∃ t, b4o m x (.mk ax al) = t := ⟨_, rfl⟩
    rw [hu] at ht ⊢
    dsimp only at ht ⊢
    obtain ⟨at', hat⟩ : ∃ t, (if er = 0 then 0 else x.f) = t := ⟨_, rfl⟩
    rw [hat] at ht ⊢
    clear hu hat n15 n16 hp
    obtain ⟨mx, ml⟩ := m
    refine e8 Tryz.func102 rfl rfl (Nat.le_of_ble_eq_true rfl) ?_
    repeat' (first | refine d7 ?_ | refine b9 ?_ | refine a8 ?_ | refine b8 ?_ | refine f7 rfl ?_ | refine f6 rfl ?_ | ((first | refine d6 (fun K hK => ?_) | refine d8 f8 (fun K hK => ?_) | refine b7 (cg ht [0,1,2,3] ?_) | refine a6 (dg ht [0,1,2,3] ?_) | fail); simp -implicitDefEqProofs [c13]) | refine hK _ ?_ | refine hK _ _ (by rfl) ?_ | fail)
    refine e7 (j6 [0, 1, 2, 3] ?_); simp -implicitDefEqProofs [l4, g7, g9, c13] <;> try rfl
  rw [if_neg c13]
  by_cases c14 : x.k = 14
  · rw [if_pos c14]
    have hl1 : 0 < p.length := by rw [hlp] at hsh; unfold s6 at hsh; simp [c14] at hsh; omega
    have ht := b9i m hm (by omega) L E x l p hlp hl1 hp hpl
    obtain ⟨⟨⟨ux, ul⟩, q, n, er⟩, hu⟩ : ∃ t, b4y m x p = t := ⟨_, rfl⟩
    have hnn : n = x.n := by
      have : (b4y m x p).n = x.n := by
        unfold b4y
        split
        · split <;> rfl
        · rfl
      rw [hu] at this; exact this
    rw [hu] at ht ⊢
    dsimp only at ht ⊢
    subst hnn
    obtain ⟨at', hat⟩ : ∃ t, (if er = 0 then 0 else x.f) = t := ⟨_, rfl⟩
    rw [hat] at ht ⊢
    clear hu hat n15 n16 hp
    obtain ⟨mx, ml⟩ := m
    refine e8 Tryz.func102 rfl rfl (Nat.le_of_ble_eq_true rfl) ?_
    repeat' (first | refine d7 ?_ | refine b9 ?_ | refine a8 ?_ | refine b8 ?_ | refine f7 rfl ?_ | refine f6 rfl ?_ | ((first | refine d6 (fun K hK => ?_) | refine d8 f8 (fun K hK => ?_) | refine b7 (cg ht [0,1,3] ?_) | refine a6 (dg ht [0,1,3] ?_) | fail); simp -implicitDefEqProofs [c14]) | refine hK _ ?_ | refine hK _ _ (by rfl) ?_ | fail)
    refine e7 (j6 [0, 1, 2, 3] ?_); simp -implicitDefEqProofs [l4, g7, g9, c14] <;> try rfl
  rw [if_neg c14]
  by_cases c15 : x.k = 15
  · rw [if_pos c15]
    obtain ⟨g0, ⟨dx, dl⟩, hd⟩ := n15 c15
    obtain ⟨n, hn⟩ : ∃ n : Nat, x.n = n := ⟨x.n.toNat, by omega⟩
    rw [hn, Int.toNat_natCast] at hd ⊢
    have hnl := (List.getElem?_eq_some_iff.1 hd).1
    have hd' := (List.getElem?_eq_some_iff.1 hd).2
    have s1 := p8 (List.mem_of_getElem? hd)
    rw [show m.kids.getD n z0T = .mk dx dl by simp [List.getD, hd], Tr.kids]
    have hfit := b0n m L E dl p (fun d h => by have := a1e (x := dx) h; omega) (fun a h => by have := (hp a h).2; omega) (by have := Tr.len_size (x := dx) (l := dl); omega) (by omega)
    have w0 : IntKind.i64.wrap ((n : Nat) : Int) = (n : Nat) := v6 _ (by omega) (by omega)
    obtain ⟨q, hq⟩ : ∃ t, a9l dl p = t := ⟨_, rfl⟩
    rw [hq] at hfit ⊢
    clear hq n15 n16 hp
    obtain ⟨mx, ml⟩ := m
    simp only [Tr.kids] at hnl hd hd'
    refine e8 Tryz.func102 rfl rfl (Nat.le_of_ble_eq_true rfl) ?_
    repeat' (first | refine d7 ?_ | refine b9 ?_ | refine a8 ?_ | refine b8 ?_ | refine f7 rfl ?_ | refine f6 rfl ?_ | ((first | refine d6 (fun K hK => ?_) | refine d8 f8 (fun K hK => ?_) | refine b7 (cg hfit [0,1,3] ?_) | refine a6 (dg hfit [0,1,3] ?_) | fail); simp -implicitDefEqProofs [c15, hn, hnl, hd, hd', w0, hlp]) | refine hK _ ?_ | refine hK _ _ (by rfl) ?_ | fail)
    refine e7 (j6 [0, 1, 2, 3] ?_); simp -implicitDefEqProofs [l4, g7, g9, c15, hn] <;> try rfl
  rw [if_neg c15]
  by_cases c16 : x.k = 16
  · rw [if_pos c16]
    obtain ⟨g0, dx, ⟨ax, al⟩, ⟨bx, bl⟩, ⟨cx, cl⟩, hd⟩ := n16 c16
    obtain ⟨n, hn⟩ : ∃ n : Nat, x.n = n := ⟨x.n.toNat, by omega⟩
    rw [hn, Int.toNat_natCast] at hd ⊢
    have hnl := (List.getElem?_eq_some_iff.1 hd).1
    have hd' := (List.getElem?_eq_some_iff.1 hd).2
    have s1 := p8 (List.mem_of_getElem? hd)
    have has := Tr.size_at (x := dx) (l := [Tr.mk ax al, .mk bx bl, .mk cx cl]) (i := 0) rfl
    have hbs := Tr.size_at (x := dx) (l := [Tr.mk ax al, .mk bx bl, .mk cx cl]) (i := 1) rfl
    rw [show m.kids.getD n z0T = .mk dx [.mk ax al, .mk bx bl, .mk cx cl] by simp [List.getD, hd], Tr.kids]
    rw [show [Tr.mk ax al, .mk bx bl, .mk cx cl].getD 0 z0T = .mk ax al from rfl, show [Tr.mk ax al, .mk bx bl, .mk cx cl].getD 1 z0T = .mk bx bl from rfl, Tr.kids]
    have hfit := b0n m L E al p (fun d h => by have := a1e (x := ax) h; omega) (fun a h => by have := (hp a h).2; omega) (by have := Tr.len_size (x := ax) (l := al); omega) (by omega)
    have hb := a1x (.mk bx bl) (by omega)
    have w0 : IntKind.i64.wrap ((n : Nat) : Int) = (n : Nat) := v6 _ (by omega) (by omega)
    obtain ⟨q, hq⟩ : ∃ t, a9l al p = t := ⟨_, rfl⟩
    obtain ⟨⟨ux, ul⟩, hu⟩ : ∃ t, a0r (.mk bx bl) = t := ⟨_, rfl⟩
    rw [hq] at hfit ⊢
    rw [hu] at hb ⊢
    clear hq hu n15 n16 hp
    obtain ⟨mx, ml⟩ := m
    simp only [Tr.kids] at hnl hd hd'
    refine e8 Tryz.func102 rfl rfl (Nat.le_of_ble_eq_true rfl) ?_
    repeat' (first | refine d7 ?_ | refine b9 ?_ | refine a8 ?_ | refine b8 ?_ | refine f7 rfl ?_ | refine f6 rfl ?_ | ((first | refine d6 (fun K hK => ?_) | refine d8 f8 (fun K hK => ?_) | refine b7 (cg hfit [0,1,3] ?_) | refine a6 (dg hfit [0,1,3] ?_) | refine b7 (cp hb ?_) | refine a6 (dp hb ?_) | fail); simp -implicitDefEqProofs [c16, hn, hnl, hd, hd', w0, hlp]) | refine hK _ ?_ | refine hK _ _ (by rfl) ?_ | fail)
    refine e7 (j6 [0, 1, 2, 3] ?_); simp -implicitDefEqProofs [l4, g7, g9, c16, hn] <;> try rfl
  rw [if_neg c16]
  clear n15 n16 hp
  by_cases c18 : x.k = 18
  · rw [if_pos c18]
    unfold tyT
    obtain ⟨mx, ml⟩ := m
    refine e8 Tryz.func102 rfl rfl (Nat.le_of_ble_eq_true rfl) ?_
    repeat (first | refine d7 ?_ | refine b9 ?_ | refine a8 ?_ | refine b8 ?_ | refine f7 rfl ?_ | refine f6 rfl ?_ | ((first | refine d6 (fun K hK => ?_) | refine d8 f8 (fun K hK => ?_) | fail); simp -implicitDefEqProofs [c18]; first | refine hK _ ?_ | refine hK _ _ (by rfl) ?_ | fail) | fail)
    refine e7 (j6 [0, 1, 2, 3] ?_); simp -implicitDefEqProofs [l4, g7, g9, c18] <;> try rfl
  rw [if_neg c18]
  have hl := a8d x l
  have hle : a59 (.mk x l) = a59 (.mk x []) := rfl
  rw [hle] at hl
  obtain ⟨⟨bx, bl⟩, hbb⟩ : ∃ b, a59 (.mk x []) = b := ⟨_, rfl⟩
  rw [hbb] at hl ⊢
  clear hbb hle
  obtain ⟨mx, ml⟩ := m
  refine e8 Tryz.func102 rfl rfl (Nat.le_of_ble_eq_true rfl) ?_
  repeat' (first | refine d7 ?_ | refine b9 ?_ | refine a8 ?_ | refine b8 ?_ | refine f7 rfl ?_ | refine f6 rfl ?_ | ((first | refine d6 (fun K hK => ?_) | refine d8 f8 (fun K hK => ?_) | refine b7 (cp hl ?_) | refine a6 (dp hl ?_) | fail); simp -implicitDefEqProofs [c7, c8, c9, c10, c11, c12, c13, c14, c15, c16, c18]) | refine hK _ ?_ | refine hK _ _ (by rfl) ?_ | fail)
  refine e7 (j6 [0, 1, 2, 3] ?_); simp -implicitDefEqProofs [l4, g7, g9] <;> try rfl
theorem a1q {m : VT} {L : List VT} {x : Lab} {l : List VT} (hs : s6 x l.length = true) (h17 : ¬ x.k = 17) (hk : a60 m L.length x = true) (he : ∀ y ∈ l, (ofP m L y).er = 0) (hok : (a0d m L x (l.map fun y => (ofP m L y).ty)).ok = true) :
    ofP m L (.mk x l) = ⟨(a0d m L x (l.map fun y => (ofP m L y).ty)).ty, .mk ⟨x.k, (a0d m L x (l.map fun y => (ofP m L y).ty)).n, ⟨#[]⟩, 0, 0⟩ (l.map fun y => (ofP m L y).fo), 0, 0⟩ := by
  rw [a63]
  unfold c2u
  rw [if_neg (by rw [hs]; simp), if_neg (fun h => h.elim h17 (by rw [hk]; simp)), List.find?_eq_none.2 (fun g hg => by
    obtain ⟨y, hy, rfl⟩ := List.mem_map.1 hg
    simpa using he y hy)]
  have e1 : (l.map (ofP m L)).map GV.ty = l.map fun y => (ofP m L y).ty := by rw [List.map_map]; rfl
  have e2 : (l.map (ofP m L)).map GV.fo = l.map fun y => (ofP m L y).fo := by rw [List.map_map]; rfl
  dsimp only
  rw [e1, e2, if_pos hok]
theorem a8b {m : VT} {L : List VT} {x : Lab} {l : List VT} (h : (ofP m L (.mk x l)).er = 0) : s6 x l.length = true ∧ ¬ x.k = 17 ∧ a60 m L.length x = true ∧ (∀ y ∈ l, (ofP m L y).er = 0) ∧ (a0d m L x (l.map fun y => (ofP m L y).ty)).ok = true := by
  have e1 : (l.map (ofP m L)).map GV.ty = l.map fun y => (ofP m L y).ty := by rw [List.map_map]; rfl
  rw [a63] at h
  unfold c2u at h
  by_cases hs : s6 x l.length = false
  · rw [if_pos hs] at h; cases h
  rw [if_neg hs] at h
  by_cases hk : x.k = 17 ∨ a60 m L.length x = false
  · rw [if_pos hk] at h; cases h
  rw [if_neg hk] at h
  cases hf : (l.map (ofP m L)).find? (fun g => !decide (g.er = 0)) with
  | some g =>
    rw [hf] at h
    have hp := List.find?_some hf
    dsimp only at h
    rw [h] at hp; cases hp
  | none =>
    rw [hf] at h
    dsimp only at h
    rw [e1] at h
    refine ⟨by simpa using hs, fun e => hk (.inl e), by simpa using fun e => hk (.inr e), fun y hy => ?_, ?_⟩
    · have := List.find?_eq_none.1 hf (ofP m L y) (List.mem_map.2 ⟨y, hy, rfl⟩)
      simpa using this
    · refine Classical.byContradiction fun hok => ?_
      rw [if_neg hok] at h
      have h' : (if (a0d m L x (l.map fun y => (ofP m L y).ty)).er = 0 then (10 : Int) else (a0d m L x (l.map fun y => (ofP m L y).ty)).er) = 0 := h
      split at h'
      · omega
      · rename_i c; exact c h'
theorem b8b (m : VT) (L : List VT) (x : Lab) (p : List VT) (h13 : ¬ x.k = 13) : (a0d m L x p).n = x.n := by
  unfold a0d
  by_cases c7 : x.k = 7
  · rw [if_pos c7]
  rw [if_neg c7]
  by_cases c8 : x.k = 8
  · rw [if_pos c8]
  rw [if_neg c8]
  by_cases c9 : x.k = 9
  · rw [if_pos c9]
  rw [if_neg c9]
  by_cases c10 : x.k = 10
  · rw [if_pos c10]
  rw [if_neg c10]
  by_cases c11 : x.k = 11
  · rw [if_pos c11]
  rw [if_neg c11]
  by_cases c12 : x.k = 12
  · rw [if_pos c12]
  rw [if_neg c12, if_neg h13]
  by_cases c14 : x.k = 14
  · rw [if_pos c14]
    unfold b4y
    split
    · split <;> rfl
    · rfl
  rw [if_neg c14]
  by_cases c15 : x.k = 15
  · rw [if_pos c15]
  rw [if_neg c15]
  by_cases c16 : x.k = 16
  · rw [if_pos c16]
  rw [if_neg c16]
  by_cases c18 : x.k = 18
  · rw [if_pos c18]
  · rw [if_neg c18]
theorem b79 (m : VT) (L : List VT) (x : Lab) (p : List VT) (h13 : x.k = 13) : a0d m L x p = b4o m x (p.getD 0 z0T) := by
  unfold a0d
  rw [if_neg (by omega), if_neg (by omega), if_neg (by omega), if_neg (by omega), if_neg (by omega), if_neg (by omega), if_pos h13]
theorem b7e (m : VT) (k N r : Int) : a3h m ⟨k, N, ⟨#[]⟩, 0, 0⟩ r = N := by
  unfold a3h; exact if_pos rfl
theorem c5m {x y : Lab} {n : Nat} (hx : x.k = 13) (hy : y.k = 13) : s6 x n = s6 y n := by
  simp [s6, hx, hy]
theorem c4x {m : VT} {n : Nat} {x : Lab} (hx : x.k = 13) : a60 m n x = true := by
  unfold a60
  rw [if_neg (by omega), if_neg (by omega)]
theorem c5b (m : VT) (L : List VT) (t : VT) (h : ¬ (ofP m L t).er = 0) : (ofP m L t).ty = z0T ∧ (ofP m L t).fo = z0T := by
  obtain ⟨x, l⟩ := t
  rw [a63] at h ⊢
  unfold c2u at h ⊢
  by_cases hs : s6 x l.length = false
  · rw [if_pos hs]; exact ⟨rfl, rfl⟩
  rw [if_neg hs] at h ⊢
  by_cases hk : x.k = 17 ∨ a60 m L.length x = false
  · rw [if_pos hk]; exact ⟨rfl, rfl⟩
  rw [if_neg hk] at h ⊢
  cases hf : (l.map (ofP m L)).find? (fun g => !decide (g.er = 0)) with
  | some g => exact ⟨rfl, rfl⟩
  | none =>
    rw [hf] at h
    dsimp only at h ⊢
    by_cases hok : (a0d m L x ((l.map (ofP m L)).map GV.ty)).ok = true
    · rw [if_pos hok] at h; exact absurd rfl h
    · rw [if_neg hok]; exact ⟨rfl, rfl⟩
theorem b9h (m : VT) (L E : List VT) (hE : OkV L E) (B : Nat) (hm : x4 B m) (hL : ∀ t ∈ L, x4 B t) (hB : B ≤ 400000) (hLl : L.length ≤ 400000) (t : VT) : p6 t → t.size ≤ 400000 → Row Tryz.prog 62 [.v (.c (.ptr 0 0)), vT t] [bxV m L 0 0, arJ E] (vTy (ofP m L t).ty (ofP m L t).fo) [some (bxV m L (ofP m L t).pl (ofP m L t).er), some (arJ E)] := by
  induction t using Tr.ind with
  | h x l ih =>
  intro ht hts
  obtain ⟨hx, hl⟩ := (Tr.all_mk _ x l).1 ht
  have hlen := Tr.len_size (x := x) (l := l)
  have hms := hm.2
  have hsha := b10 x l
  have hknw := b5p m (by omega) L E (by omega) 0 0 x l hx
  have hf12 := a03 m L E 0 0 x l 12
  have hf8 := a03 m L E 0 0 x l 8
  have hf10 := a03 m L E 0 0 x l 10
  rw [if_pos rfl, if_pos rfl] at hf12 hf8 hf10
  rw [a63]
  unfold c2u
  cases hS : s6 x l.length with
  | false =>
    rw [hS] at hsha
    rw [if_pos rfl]
    unfold b6n
    clear ih hknw hf8 hf10
    obtain ⟨mx, ml⟩ := m
    refine e8 Tryz.func62 rfl rfl (Nat.le_of_ble_eq_true rfl) ?_
    repeat' (first | refine d7 ?_ | refine b9 ?_ | refine a8 ?_ | refine b8 ?_ | refine f7 rfl ?_ | refine f6 rfl ?_ | ((first | refine d6 (fun K hK => ?_) | refine d8 f8 (fun K hK => ?_) | refine b7 (cp hsha ?_) | refine a6 (dp hsha ?_) | refine b7 (cg hf12 [0,1] ?_) | refine a6 (dg hf12 [0,1] ?_) | fail); simp -implicitDefEqProofs) | refine hK _ ?_ | refine hK _ _ (by rfl) ?_ | fail)
    refine e7 (j6 [0, 1] ?_); simp -implicitDefEqProofs [l4, g7, g9] <;> try rfl
  | true =>
  rw [hS] at hsha
  rw [if_neg (by simp)]
  clear hf12
  by_cases c17 : x.k = 17
  · rw [if_pos (.inl c17)]
    unfold b6n
    clear ih hknw hf10
    obtain ⟨mx, ml⟩ := m
    refine e8 Tryz.func62 rfl rfl (Nat.le_of_ble_eq_true rfl) ?_
    repeat' (first | refine d7 ?_ | refine b9 ?_ | refine a8 ?_ | refine b8 ?_ | refine f7 rfl ?_ | refine f6 rfl ?_ | ((first | refine d6 (fun K hK => ?_) | refine d8 f8 (fun K hK => ?_) | refine b7 (cp hsha ?_) | refine a6 (dp hsha ?_) | refine b7 (cg hf8 [0,1] ?_) | refine a6 (dg hf8 [0,1] ?_) | fail); simp -implicitDefEqProofs [c17]) | refine hK _ ?_ | refine hK _ _ (by rfl) ?_ | fail)
    refine e7 (j6 [0, 1] ?_); simp -implicitDefEqProofs [l4, g7, g9] <;> try rfl
  cases hN : a60 m L.length x with
  | false =>
    rw [hN] at hknw
    rw [if_pos (.inr rfl)]
    unfold b6n
    clear ih hf10
    obtain ⟨mx, ml⟩ := m
    refine e8 Tryz.func62 rfl rfl (Nat.le_of_ble_eq_true rfl) ?_
    repeat' (first | refine d7 ?_ | refine b9 ?_ | refine a8 ?_ | refine b8 ?_ | refine f7 rfl ?_ | refine f6 rfl ?_ | ((first | refine d6 (fun K hK => ?_) | refine d8 f8 (fun K hK => ?_) | refine b7 (cp hsha ?_) | refine a6 (dp hsha ?_) | refine b7 (cg hknw [0,1] ?_) | refine a6 (dg hknw [0,1] ?_) | refine b7 (cg hf8 [0,1] ?_) | refine a6 (dg hf8 [0,1] ?_) | fail); simp -implicitDefEqProofs [c17]) | refine hK _ ?_ | refine hK _ _ (by rfl) ?_ | fail)
    refine e7 (j6 [0, 1] ?_); simp -implicitDefEqProofs [l4, g7, g9] <;> try rfl
  | true =>
  rw [hN] at hknw
  rw [if_neg (fun h => h.elim c17 (by simp))]
  clear hf8
  have hgl : ∀ a ∈ (l.map (ofP m L)).map GV.ty, p6 a ∧ a.size ≤ 900000 := by
    intro a ha
    rw [List.map_map] at ha
    obtain ⟨y, hy, rfl⟩ := List.mem_map.1 ha
    have hys := a1e (x := x) hy
    have := (b3k hm (by omega) hL y (hl y hy) (by omega)).ty
    exact ⟨this.1, by have := this.2; show (ofP m L y).ty.size ≤ _; omega⟩
  have hru := fun F => b9j m hm.1 (by omega) L E hE (fun t h => by have := (hL t h).2; omega) (by omega) x l hx ((l.map (ofP m L)).map GV.ty) (by simp) hgl (by simp; omega) hS hN F
  obtain ⟨⟨⟨rx, rl⟩, rok, rn, re⟩, hR⟩ : ∃ R, a0d m L x ((l.map (ofP m L)).map GV.ty) = R := ⟨_, rfl⟩
  rw [hR] at hru ⊢
  dsimp only at hru ⊢
  have hfr := a03 m L E (if re = 0 then 0 else x.f) re x l 10
  obtain ⟨F, hF⟩ : ∃ F, (match (l.map (ofP m L)).find? (fun g => !decide (g.er = 0)) with
    | some g => ⟨z0T, z0T, g.pl, g.er⟩
    | none => if rok = true then ⟨.mk rx rl, .mk ⟨x.k, rn, ⟨#[]⟩, 0, 0⟩ ((l.map (ofP m L)).map GV.fo), 0, 0⟩ else b6n x (if re = 0 then 10 else re) : GV) = F := ⟨_, rfl⟩
  suffices hsuf : Row Tryz.prog 62 [.v (.c (.ptr 0 0)), vT (.mk x l)] [bxV m L 0 0, arJ E] (vTy F.ty F.fo) [some (bxV m L F.pl F.er), some (arJ E)] by
    rw [← hF] at hsuf
    exact hsuf
  have hre : rok = true → re = 0 := by
    have := c5i m L x ((l.map (ofP m L)).map GV.ty)
    rw [hR] at this
    exact this
  clear hR
  have hat : ∀ (k : Nat) ax al, l[k]? = some (.mk ax al) → ¬ (ofP m L (.mk ax al)).er = 0 → (∀ y ∈ l.take k, (ofP m L y).er = 0) → F = ⟨z0T, z0T, (ofP m L (.mk ax al)).pl, (ofP m L (.mk ax al)).er⟩ := by
    intro k ax al ha he hno
    rw [← hF, c4l (k := k) (a := ofP m L (.mk ax al)) (by rw [List.getElem?_map, ha]; rfl) (by simpa using he) (fun g hg => by
      rw [← List.map_take] at hg
      obtain ⟨y, hy, rfl⟩ := List.mem_map.1 hg
      simpa using hno y hy)]
  have hend : (∀ y ∈ l, (ofP m L y).er = 0) → F = if rok = true then ⟨.mk rx rl, .mk ⟨x.k, rn, ⟨#[]⟩, 0, 0⟩ ((l.map (ofP m L)).map GV.fo), 0, 0⟩ else b6n x (if re = 0 then 10 else re) := by
    intro hno
    rw [← hF, List.find?_eq_none.2 (fun g hg => by
      obtain ⟨y, hy, rfl⟩ := List.mem_map.1 hg
      simpa using hno y hy)]
  clear hF
  obtain ⟨Ty, hTy⟩ : ∃ Ty : List VT, (l.map (ofP m L)).map GV.ty = Ty := ⟨_, rfl⟩
  obtain ⟨Fo, hFo⟩ : ∃ Fo : List VT, (l.map (ofP m L)).map GV.fo = Fo := ⟨_, rfl⟩
  have hTl : Ty.length = l.length := by rw [← hTy]; simp
  have hFl : Fo.length = l.length := by rw [← hFo]; simp
  have hTk : ∀ k y, l[k]? = some y → Ty.take (k + 1) = Ty.take k ++ [(ofP m L y).ty] := fun k y h => by
    rw [List.take_add_one, ← hTy, List.getElem?_map, List.getElem?_map, h]; rfl
  have hFk : ∀ k y, l[k]? = some y → Fo.take (k + 1) = Fo.take k ++ [(ofP m L y).fo] := fun k y h => by
    rw [List.take_add_one, ← hFo, List.getElem?_map, List.getElem?_map, h]; rfl
  rw [hTy] at hru
  rw [hFo] at hend
  clear hTy hFo hgl
  replace hru := hru Fo
  obtain ⟨mx, ml⟩ := m
  refine e8 Tryz.func62 rfl rfl (Nat.le_of_ble_eq_true rfl) ?_
  repeat' (first | refine d7 ?_ | refine b9 ?_ | refine a8 ?_ | refine b8 ?_ | refine f7 rfl ?_ | refine f6 rfl ?_ | ((first | refine d6 (fun K hK => ?_) | refine d8 f8 (fun K hK => ?_) | refine b7 (cp hsha ?_) | refine a6 (dp hsha ?_) | refine b7 (cg hknw [0,1] ?_) | refine a6 (dg hknw [0,1] ?_) | fail); simp -implicitDefEqProofs [c17]) | refine hK _ ?_ | refine hK _ _ (by rfl) ?_ | fail)
  refine a2u 35 3 [.pv (I x.k), .pv (I x.n), .pv (Sx ⟨#[]⟩), .pv .nilS, .pv (I 0), .pv (I 0)] 24 6 (by simp) (by simp) (by simp) ?_
  simp [St.nilca]
  refine a2u 37 0 [.pv .nilS] 24 6 (by simp) (by simp) (by simp) ?_
  simp [St.nilca]
  refine v7 (ι := Nat) (fun k => a0w [(0, .v (.c (.ptr 0 0))), (3, .v (.c (.ptr 2 0))), (4, .v (.c (.ptr 3 0))), (5, .v (.c (.ptr 4 0))), (6, .v (.c (.ptr 5 0))), (37, vLs l), (38, vI (l.length : Nat)), (39, vI (k : Nat))] [some (bxV (.mk mx ml) L 0 0), some (arJ E), some (.box (ta (.mk x l))), some (.box (ta z0T ++ ta z0T)), some (.box [.pv (I x.k), .pv (I x.n), .pv (Sx ⟨#[]⟩), .arr 6 6 (Fo.take k).length, .pv (I 0), .pv (I 0)]), some (.box [.arr 7 6 (Ty.take k).length]), some (.arr 24 6 ((Fo.take k).map tc)), some (.arr 24 6 ((Ty.take k).map tc))]) (fun k => k ≤ l.length ∧ ∀ y ∈ l.take k, (ofP (.mk mx ml) L y).er = 0) (fun k => l.length - k) 0 ⟨Nat.zero_le _, by simp⟩ (i6 [0, 1, 2, 3, 35, 37, 42, 43] (by simp -implicitDefEqProofs) (by simp -implicitDefEqProofs) (by decide) rfl (by simp)) (fun Z hI k hk => ?_)
  obtain ⟨hk, hz⟩ := hk
  by_cases hkl : k < l.length; rotate_left
  · have : k = l.length := by omega
    subst this
    rw [List.take_length] at hz
    have hF := hend hz
    have e1 : Ty.take l.length = Ty := List.take_of_length_le (by omega)
    have e2 : Fo.take l.length = Fo := List.take_of_length_le (by omega)
    rw [e1, e2]
    clear hat hend ih hTk hFk
    repeat (first | refine d7 ?_ | refine b9 ?_ | refine a8 ?_ | refine b8 ?_ | refine f7 rfl ?_ | refine f6 rfl ?_ | ((first | refine d6 (fun K hK => ?_) | refine d8 f8 (fun K hK => ?_) | fail); simp -implicitDefEqProofs; first | refine hK _ ?_ | refine hK _ _ (by rfl) ?_ | fail) | fail)
    refine b2m 6 24 6 (Fo.map tc) (by simp) ?_
    refine b2m 7 24 6 (Ty.map tc) (by simp [St.frz, AO.frz]) ?_
    simp [St.frz, AV.frz, AT.frz, AC.frz, AO.frz]
    cases rok with
    | true =>
      have hre := hre rfl
      subst hre
      replace hF := hF.trans (if_pos rfl)
      subst hF
      rw [if_pos rfl] at hru
      repeat' (first | refine d7 ?_ | refine b9 ?_ | refine a8 ?_ | refine b8 ?_ | refine f7 rfl ?_ | refine f6 rfl ?_ | ((first | refine d6 (fun K hK => ?_) | refine d8 f8 (fun K hK => ?_) | refine b7 (cg hru [0,1,4,5] ?_) | refine a6 (dg hru [0,1,4,5] ?_) | fail); simp -implicitDefEqProofs) | refine hK _ ?_ | refine hK _ _ (by rfl) ?_ | fail)
      refine e7 (j6 [0, 1] ?_); simp -implicitDefEqProofs [l4, g7, g9] <;> try rfl
    | false =>
      replace hF := hF.trans (if_neg (by simp))
      subst hF
      unfold b6n
      by_cases he : re = 0
      · subst he
        simp only [if_pos] at hru hfr ⊢
        repeat' (first | refine d7 ?_ | refine b9 ?_ | refine a8 ?_ | refine b8 ?_ | refine f7 rfl ?_ | refine f6 rfl ?_ | ((first | refine d6 (fun K hK => ?_) | refine d8 f8 (fun K hK => ?_) | refine b7 (cg hru [0,1,4,5] ?_) | refine a6 (dg hru [0,1,4,5] ?_) | refine b7 (cg hfr [0,1] ?_) | refine a6 (dg hfr [0,1] ?_) | fail); simp -implicitDefEqProofs) | refine hK _ ?_ | refine hK _ _ (by rfl) ?_ | fail)
        refine e7 (j6 [0, 1] ?_); simp -implicitDefEqProofs [l4, g7, g9] <;> try rfl
      · simp only [if_neg he] at hru hfr ⊢
        repeat' (first | refine d7 ?_ | refine b9 ?_ | refine a8 ?_ | refine b8 ?_ | refine f7 rfl ?_ | refine f6 rfl ?_ | ((first | refine d6 (fun K hK => ?_) | refine d8 f8 (fun K hK => ?_) | refine b7 (cg hru [0,1,4,5] ?_) | refine a6 (dg hru [0,1,4,5] ?_) | refine b7 (cg hfr [0,1] ?_) | refine a6 (dg hfr [0,1] ?_) | fail); simp -implicitDefEqProofs) | refine hK _ ?_ | refine hK _ _ (by rfl) ?_ | fail)
        refine e7 (j6 [0, 1] ?_); simp -implicitDefEqProofs [l4, g7, g9] <;> try rfl
  obtain ⟨⟨ax, al⟩, ha⟩ : ∃ a, l[k]? = some a := ⟨_, List.getElem?_eq_getElem hkl⟩
  have ha' := (List.getElem?_eq_some_iff.1 ha).2
  have hsz1 := Tr.size_at (x := x) ha
  have hc := ih _ (List.mem_of_getElem? ha) (hl _ (List.mem_of_getElem? ha)) (by omega)
  have w2 : IntKind.i64.wrap ((k : Nat) + 1 : Int) = (k : Nat) + 1 := v6 _ (by omega) (by omega)
  have hs := hTk k _ ha
  have hf := hFk k _ ha
  have hto := hat k ax al ha
  have hTkl : (Ty.take k).length = k := by rw [List.length_take]; omega
  have hFkl : (Fo.take k).length = k := by rw [List.length_take]; omega
  obtain ⟨TK, hTK⟩ : ∃ TK, Ty.take k = TK := ⟨_, rfl⟩
  obtain ⟨FK, hFK⟩ : ∃ FK, Fo.take k = FK := ⟨_, rfl⟩
  have hnx : (ofP (.mk mx ml) L (.mk ax al)).er = 0 → ∀ y ∈ l.take (k + 1), (ofP (.mk mx ml) L y).er = 0 := by
    intro he y hy
    rw [List.take_add_one, ha] at hy
    rcases List.mem_append.1 hy with hy | hy
    · exact hz y hy
    · simp at hy; subst hy; exact he
  have hpl := c2v (.mk mx ml) L (.mk ax al)
  obtain ⟨⟨⟨bx, bl⟩, ⟨cx, cl⟩, gp, ge⟩, hG⟩ : ∃ g, ofP (.mk mx ml) L (.mk ax al) = g := ⟨_, rfl⟩
  rw [hG] at hc hto hs hf hnx hpl
  rw [hTK] at hs hTkl ⊢
  rw [hFK] at hf hFkl ⊢
  dsimp only at hc hto hpl hs hf
  clear hG hTK hFK hTk hFk hat hend ih hru hfr hf10 hre
  have b1 : (k + 1) * 72 ≤ 140737488355328 := by omega
  have b2 : k + 1 ≤ 140737488355328 := by omega
  by_cases he : ge = 0
  · have hp0 := hpl he
    subst he hp0
    have z1 : zPV (Value.int .i64 0) = some (.lit (.int .i64 0)) := rfl
    have z2 : zPV (Value.string { data := #[] }) = some (.lit (.string { data := #[] })) := rfl
    have z3 : zPV (Value.slice none 0 0) = some .nilS := rfl
    have i1 : ((k : Nat) : Int) < (k : Nat) + 1 := by omega
    have i2 : k < k + 1 := by omega
    have sF : ∀ z c : List PV, (FK.map tc ++ [z]).set k c = FK.map tc ++ [c] := fun z c => by
      rw [List.set_append_right _ _ (by rw [List.length_map]; omega), List.length_map, hFkl, Nat.sub_self]; rfl
    have sT : ∀ z c : List PV, (TK.map tc ++ [z]).set k c = TK.map tc ++ [c] := fun z c => by
      rw [List.set_append_right _ _ (by rw [List.length_map]; omega), List.length_map, hTkl, Nat.sub_self]; rfl
    repeat' (first | refine d7 ?_ | refine b9 ?_ | refine a8 ?_ | refine b8 ?_ | refine f7 rfl ?_ | refine f6 rfl ?_ | ((first | refine d6 (fun K hK => ?_) | refine d8 f8 (fun K hK => ?_) | refine b7 (cg hc [0,1] ?_) | refine a6 (dg hc [0,1] ?_) | fail); simp -implicitDefEqProofs [hkl, ha, ha', hTkl, hFkl, b1, b2, w2, z1, z2, z3, i1, i2, sF, sT]) | refine hK _ ?_ | refine hK _ _ (by rfl) ?_ | fail)
    refine ⟨k + 1, ⟨by omega, hnx rfl⟩, (by dsimp only; omega), ?_⟩
    rw [hI, hs, hf]; exact i6 [0, 1, 2, 3, 4, 5, 78, 158] (by simp -implicitDefEqProofs [hTkl, hFkl]) (by simp -implicitDefEqProofs [hTkl, hFkl]) (by decide) rfl (by simp)
  · have hF := hto he hz
    subst hF
    repeat' (first | refine d7 ?_ | refine b9 ?_ | refine a8 ?_ | refine b8 ?_ | refine f7 rfl ?_ | refine f6 rfl ?_ | ((first | refine d6 (fun K hK => ?_) | refine d8 f8 (fun K hK => ?_) | refine b7 (cg hc [0,1] ?_) | refine a6 (dg hc [0,1] ?_) | fail); simp -implicitDefEqProofs [hkl, ha, ha', he]) | refine hK _ ?_ | refine hK _ _ (by rfl) ?_ | fail)
    refine e7 (j6 [0, 1] ?_); simp -implicitDefEqProofs [l4, g7, g9] <;> try rfl
noncomputable abbrev vOfV (g : GV) : AV := .tup [.agg (ta g.ty), .agg (ta g.fo), .c (.pv (I g.pl)), .c (.pv (I g.er))]
theorem c58 (m : VT) (L E : List VT) (hE : OkV L E) (B : Nat) (hm : x4 B m) (hL : ∀ t ∈ L, x4 B t) (hB : B ≤ 400000) (hLl : L.length ≤ 400000) (t : VT) (ht : p6 t) (hts : t.size ≤ 400000) : Row Tryz.prog 41 [vT m, .v (.c (.vw 0 6 0 L.length)), vT t] [arJ E] (vOfV (ofP m L t)) [some (arJ E)] := by
  have h := b9h m L E hE B hm hL hB hLl t ht hts
  have hpl := c2v m L t
  have hbd := c5b m L t
  obtain ⟨⟨⟨ax, al⟩, ⟨bx, bl⟩, gp, ge⟩, hG⟩ : ∃ g, ofP m L t = g := ⟨_, rfl⟩
  rw [hG] at h hpl hbd ⊢
  dsimp only at h hpl hbd
  clear hG
  obtain ⟨mx, ml⟩ := m
  obtain ⟨x, l⟩ := t
  by_cases he : ge = 0
  · have hp := hpl he
    subst he hp
    clear hpl hbd
    refine e8 Tryz.func41 rfl rfl (Nat.le_of_ble_eq_true rfl) ?_
    repeat' (first | refine d7 ?_ | refine b9 ?_ | refine a8 ?_ | refine b8 ?_ | refine f7 rfl ?_ | refine f6 rfl ?_ | ((first | refine d6 (fun K hK => ?_) | refine d8 f8 (fun K hK => ?_) | refine b7 (cg h [10,0] ?_) | refine a6 (dg h [10,0] ?_) | fail); simp -implicitDefEqProofs) | refine hK _ ?_ | refine hK _ _ (by rfl) ?_ | fail)
    refine e7 (j6 [0] ?_); simp -implicitDefEqProofs [l4, g7, g9] <;> try rfl
  · obtain ⟨e1, e2⟩ := hbd he
    rw [e1, e2] at h ⊢
    clear hpl hbd e1 e2
    refine e8 Tryz.func41 rfl rfl (Nat.le_of_ble_eq_true rfl) ?_
    repeat' (first | refine d7 ?_ | refine b9 ?_ | refine a8 ?_ | refine b8 ?_ | refine f7 rfl ?_ | refine f6 rfl ?_ | ((first | refine d6 (fun K hK => ?_) | refine d8 f8 (fun K hK => ?_) | refine b7 (cg h [10,0] ?_) | refine a6 (dg h [10,0] ?_) | fail); simp -implicitDefEqProofs [he]) | refine hK _ ?_ | refine hK _ _ (by rfl) ?_ | fail)
    refine e7 (j6 [0] ?_); simp -implicitDefEqProofs [l4, g7, g9, he] <;> try rfl
end Go.Proofs.YthmdllhhmhbhbaaGreatDoor.am
end
