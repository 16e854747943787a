import Derived.Test.YtbbkmijkllgfaaaGreatDoorPkL10
import Derived.Test.YtbbkmijkllgfaaaGreatDoorPkL4
set_option maxRecDepth 100000
set_option maxHeartbeats 4000000
section
namespace Go.Proofs.YtbbkmijkllgfaaaGreatDoor.am
open Go.ChangeShapes Go.WideShapes Go.ChangeAt Go.RowKit
open vt
set_option linter.unusedVariables false
set_option linter.unusedSimpArgs false
structure JS where
  lo : List VT
  at' : Int
  er : Int
def a0z (x : Lab) (e : Int) (j : JS) : JS := if j.er = 0 then ⟨j.lo, x.f, e⟩ else j
def brgJ (t : VT) (j : JS) : JS := ⟨j.lo ++ [t], j.at', j.er⟩
noncomputable def a4e (m t : VT) (j : JS) : VT × VT × JS :=
  if ¬ j.er = 0 then (z0T, z0T, j)
  else ((ofP m j.lo t).ty, (ofP m j.lo t).fo, if (ofP m j.lo t).er = 0 then j else ⟨j.lo, (ofP m j.lo t).pl, (ofP m j.lo t).er⟩)
noncomputable def ofJ (m t : VT) (p : VT → Bool) (j : JS) : VT × JS :=
  ((a4e m t j).2.1, if p (a4e m t j).1 = true then (a4e m t j).2.2 else a0z t.lab 10 (a4e m t j).2.2)
noncomputable def c6e (m t : VT) (j : JS) : JS := if a62 m t = 0 then a0z t.lab 11 j else j
def c0g {α : Type} : List (JS → α × JS) → JS → List α × JS
  | [], j => ([], j)
  | f :: r, j => ((f j).1 :: (c0g r (f j).2).1, (c0g r (f j).2).2)
noncomputable def blkJ (fs : List (JS → VT × JS)) (j : JS) : List VT × JS :=
  if ¬ (c0g fs j).2.er = 0 then ([], (c0g fs j).2)
  else ((c0g fs j).1, ⟨(c0g fs j).2.lo.take j.lo.length, (c0g fs j).2.at', (c0g fs j).2.er⟩)
noncomputable def setJ (m : VT) (x : Lab) (l : List VT) (j : JS) : List VT × JS :=
  let a := a4e m (l.getD 0 z0T) j
  let b := a4e m (l.getD 1 z0T) a.2.2
  let c := if (a3o (l.getD 0 z0T)).lab.k = 7 ∨ (a3o (l.getD 0 z0T)).lab.k = 9 then b.2.2 else a0z (l.getD 0 z0T).lab 12 b.2.2
  ([a.2.1, b.2.1], if same a.1 b.1 = true then c else a0z x 10 c)
noncomputable def forJ (m : VT) (l : List VT) (f : JS → VT × JS) (j : JS) : List VT × JS :=
  let a := ofJ m (l.getD 0 z0T) (fun t => isT t 1) j
  let b := ofJ m (l.getD 1 z0T) (fun t => isT t 1) a.2
  let c := f (brgJ (tyT 1) b.2)
  ([a.1, b.1, c.1], ⟨c.2.lo.take b.2.lo.length, c.2.at', c.2.er⟩)
noncomputable def doJ (m t : VT) (j : JS) : VT × JS :=
  let c := if t.lab.k = 16 then j else a0z t.lab 12 j
  ((a4e m t c).2.1, (a4e m t c).2.2)
noncomputable def prtJ (m ret : VT) (x : Lab) (l : List VT) (fs : List (JS → VT × JS)) (j : JS) : List VT × JS :=
  if x.k = 29 then blkJ fs j
  else if x.k = 20 then ([(a4e m (l.getD 0 z0T) j).2.1], brgJ (a4e m (l.getD 0 z0T) j).1 (a4e m (l.getD 0 z0T) j).2.2)
  else if x.k = 21 then ([l3 (l.getD 0 z0T)], brgJ (u9 (l.getD 0 z0T)) (c6e m (l.getD 0 z0T) j))
  else if x.k = 22 then setJ m x l j
  else if x.k = 23 ∨ x.k = 24 then ((ofJ m (l.getD 0 z0T) (fun t => isT t 2) j).1 :: (c0g (fs.drop 1) (ofJ m (l.getD 0 z0T) (fun t => isT t 2) j).2).1, (c0g (fs.drop 1) (ofJ m (l.getD 0 z0T) (fun t => isT t 2) j).2).2)
  else if x.k = 25 then forJ m l (fs.getD 2 (fun j => (z0T, j))) j
  else if x.k = 26 then ([(ofJ m (l.getD 0 z0T) (fun t => isT t 1 || isT t 2) j).1], (ofJ m (l.getD 0 z0T) (fun t => isT t 1 || isT t 2) j).2)
  else if x.k = 27 then ([(ofJ m (l.getD 0 z0T) (fun t => same t ret) j).1], (ofJ m (l.getD 0 z0T) (fun t => same t ret) j).2)
  else ([(doJ m (l.getD 0 z0T) j).1], (doJ m (l.getD 0 z0T) j).2)
noncomputable def stmC' (m ret : VT) (x : Lab) (l : List VT) (fs : List (JS → VT × JS)) (j : JS) : VT × JS :=
  if ¬ j.er = 0 then (z0T, j)
  else if b0g x l = false then (z0T, a0z x 12 j)
  else (.mk ⟨x.k, x.n, ⟨#[]⟩, 0, 0⟩ (prtJ m ret x l fs j).1, (prtJ m ret x l fs j).2)
noncomputable def c2m (m ret : VT) (t : VT) : JS → VT × JS := Tr.fold (stmC' m ret) t
noncomputable def nlJ (j : JS) : JS := ⟨j.lo.map l3, j.at', j.er⟩
section
variable {m s : VT} (M : Sd m s)
include M
end
end Go.Proofs.YtbbkmijkllgfaaaGreatDoor.am
end
section
namespace Go.Proofs.YtbbkmijkllgfaaaGreatDoor.am
open vt
set_option linter.unusedVariables false
set_option linter.unusedSimpArgs false
theorem c1k (x : Lab) (e : Int) (j : JS) : (a0z x e j).lo = j.lo := by unfold a0z; split <;> rfl
structure Cm (m : VT) (L : List VT) (ret : VT) (B sz : Nat) : Prop where
  hm : p6 B m
  hL : ∀ t ∈ L, p6 B t
  len : L.length + sz ≤ 400000
  le : B + sz ≤ 400000
  ret : p6 400000 ret
theorem Cm.less {m : VT} {L : List VT} {ret : VT} {B sz sz' : Nat} (h : Cm m L ret B sz) (hs : sz' ≤ sz) : Cm m L ret B sz' := ⟨h.hm, h.hL, by have := h.len; omega, by have := h.le; omega, h.ret⟩
structure Lk (B N : Nat) (j : JS) : Prop where
  fine : ∀ t ∈ j.lo, p6 B t
  len : j.lo.length ≤ N
theorem Lk.mono {B N B' N' : Nat} {j : JS} (h : Lk B N j) (hB : B ≤ B') (hN : N ≤ N') : Lk B' N' j := ⟨fun t ht => (h.fine t ht).le hB, by have := h.len; omega⟩
theorem Lk.of {B N : Nat} {j k : JS} (h : Lk B N j) (e : k.lo = j.lo) : Lk B N k := ⟨by rw [e]; exact h.fine, by rw [e]; exact h.len⟩
theorem Lk.brg {B N : Nat} {j : JS} {t : VT} (h : Lk B N j) (ht : p6 B t) : Lk B (N + 1) (brgJ t j) := ⟨fun y hy => by
  rcases List.mem_append.1 (show y ∈ j.lo ++ [t] from hy) with hy | hy
  · exact h.fine y hy
  · rw [List.mem_singleton.1 hy]; exact ht, by show (j.lo ++ [t]).length ≤ _; rw [List.length_append]; have := h.len; simp; omega⟩
theorem Lk.cut {B N n : Nat} {j k : JS} (h : Lk B N j) (e : k.lo = j.lo.take n) : Lk B N k := ⟨fun y hy => h.fine y (List.mem_of_mem_take (by rw [← e]; exact hy)), by rw [e, List.length_take]; have := h.len; omega⟩
end Go.Proofs.YtbbkmijkllgfaaaGreatDoor.am
end
section
namespace Go.Proofs.YtbbkmijkllgfaaaGreatDoor.am
open Go.ChangeShapes Go.WideShapes Go.ChangeAt Go.RowKit
open vt
set_option linter.unusedVariables false
set_option linter.unusedSimpArgs false
structure StOk (m s ret : VT) (t : VT) (j : JS) : Prop where
  er : j.er = 0
  k : (c2m m ret t j).1.lab.k = t.lab.k
  nl : l3 (c2m m ret t j).1 = (c2m m ret t j).1
  st : c2m s (l3 ret) (c2m m ret t j).1 (nlJ j) = ((c2m m ret t j).1, nlJ (c2m m ret t j).2)
section
variable {m s : VT} (M : Sd m s)
include M
end
end Go.Proofs.YtbbkmijkllgfaaaGreatDoor.am
end
section
namespace Go.Proofs.YtbbkmijkllgfaaaGreatDoor.am
open Go.ChangeShapes Go.WideShapes Go.ChangeAt Go.RowKit
open vt
set_option linter.unusedVariables false
set_option linter.unusedSimpArgs false
def chkJ (bad : VT → Bool) (e : Int) : List VT → JS → JS
  | [], j => j
  | t :: r, j => chkJ bad e r (if bad t = true then a0z t.lab e j else j)
noncomputable def badS (m : VT) (t : VT) : Bool := decide (a62 m t = 0)
noncomputable def badP (m : VT) (n : Int) (t : VT) : Bool := decide (n = 1) && !(decide (0 < a62 m t) && a3u t)
def litB (t : VT) : Bool := decide (t.kids.length = 0) && (decide (t.lab.k = 5) || (decide (t.lab.k = 6) && (decide (t.lab.n = 0) || decide (t.lab.n = 1))))
def typB (t : VT) : Bool := decide (1 ≤ t.lab.k) && decide (t.lab.k ≤ 4)
def fnB (x : Lab) (l : List VT) : Bool := (decide (x.n = 0) || decide (x.n = 1)) && decide (l.length = 3) && decide ((l.getD 0 z0T).lab.k = 35) && b41 (l.getD 0 z0T).kids && typB (l.getD 1 z0T) && decide ((l.getD 2 z0T).lab.k = 29)
noncomputable def fnS (m : VT) (x : Lab) (l : List VT) (j : JS) : JS :=
  ⟨(p8 (.mk x l)).map u9, (chkJ (badP m x.n) 12 (p8 (.mk x l) ++ [l.getD 1 z0T]) (chkJ (badS m) 11 (p8 (.mk x l) ++ [l.getD 1 z0T]) j)).at', (chkJ (badP m x.n) 12 (p8 (.mk x l) ++ [l.getD 1 z0T]) (chkJ (badS m) 11 (p8 (.mk x l) ++ [l.getD 1 z0T]) j)).er⟩
noncomputable def fnJ (m : VT) (x : Lab) (l : List VT) (j : JS) : VT × JS :=
  if fnB x l = false then (z0T, a0z x 12 j)
  else (.mk ⟨x.k, x.n, ⟨#[]⟩, 0, 0⟩ [l3 (l.getD 0 z0T), l3 (l.getD 1 z0T), (c2m m (l.getD 1 z0T) (l.getD 2 z0T) (fnS m x l j)).1], (c2m m (l.getD 1 z0T) (l.getD 2 z0T) (fnS m x l j)).2)
noncomputable def b2h (m : VT) (i : Nat) (t : VT) (j : JS) : VT × JS :=
  if t.lab.k = 33 then fnJ m t.lab t.kids j
  else (l3 t, if t.lab.k = 30 then (if a44 t = false then a0z t.lab 12 j else if a62 m (.mk ⟨4, i, ⟨#[]⟩, 0, 0⟩ []) = 0 then a0z t.lab 11 j else j)
    else if t.lab.k = 31 then (if ¬ t.kids.length = 1 ∨ litB (t.kids.getD 0 z0T) = false then a0z t.lab 12 j else j)
    else if t.lab.k = 32 then (if ¬ t.kids.length = 1 then a0z t.lab 12 j else c6e m (t.kids.getD 0 z0T) j)
    else a0z t.lab 12 j)
noncomputable def p9 (m : VT) : Nat → List VT → JS → List VT × JS
  | _, [], j => ([], j)
  | i, d :: r, j => if j.er = 0 then ((b2h m i d j).1 :: (p9 m (i + 1) r (b2h m i d j).2).1, (p9 m (i + 1) r (b2h m i d j).2).2) else p9 m (i + 1) r j
noncomputable def a5k (m : VT) : JS := if m.lab.k = 36 then ⟨[], 0, 0⟩ else a0z m.lab 12 ⟨[], 0, 0⟩
noncomputable def c1q (m : VT) : VT × Int × Int :=
  if (p9 m 0 m.kids (a5k m)).2.er = 0 then (.mk ⟨m.lab.k, m.lab.n, ⟨#[]⟩, 0, 0⟩ (p9 m 0 m.kids (a5k m)).1, 0, 0)
  else (z0T, (p9 m 0 m.kids (a5k m)).2.at', (p9 m 0 m.kids (a5k m)).2.er)
section
variable {m s : VT} (M : Sd m s)
include M
end
end Go.Proofs.YtbbkmijkllgfaaaGreatDoor.am
end
section
namespace Go.Proofs.YtbbkmijkllgfaaaGreatDoor.am
open Go.ChangeShapes Go.WideShapes Go.ChangeAt Go.RowKit
open vt
set_option linter.unusedVariables false
set_option linter.unusedSimpArgs false
end Go.Proofs.YtbbkmijkllgfaaaGreatDoor.am
end
section
namespace Go.Proofs.YtbbkmijkllgfaaaGreatDoor.am
open vt
noncomputable abbrev vT3i (r : VT × Int × Int) : AV := .tup [.agg (ta r.1), .c (.pv (I r.2.1)), .c (.pv (I r.2.2))]
abbrev zTb : AO := .box [.pv (I 0), .pv (I 0), .pv (Sx ⟨#[]⟩), .pv .nilS, .pv (I 0), .pv (I 0)]
end Go.Proofs.YtbbkmijkllgfaaaGreatDoor.am
end
section
namespace Go.Proofs.YtbbkmijkllgfaaaGreatDoor.am
open Go.ChangeShapes Go.WideShapes Go.ChangeAt Go.RowKit
open vt
set_option linter.unusedVariables false
set_option linter.unusedSimpArgs false
theorem b4q (m ret : VT) (n : Nat) (E : List VT) (a e : Int) (x : Lab) (l : List VT) (c : Int) (hc : Row Tryz.prog 76 [vT m, vT (.mk x l)] [] (vI c) []) : Row Tryz.prog 78 [.v (.c (.ptr 0 0)), vT (.mk x l)] [bxJ 1 m ret n a e, arJ E] (.tup []) [some (bxJ 1 m ret n (if c = 0 ∧ e = 0 then x.f else a) (if c = 0 ∧ e = 0 then 11 else e)), some (arJ E)] := by
  have hf := a89 m ret n E a e x l 11
  obtain ⟨mx, ml⟩ := m
  obtain ⟨rx, rl⟩ := ret
  by_cases h : c = 0
  · subst h
    by_cases he : e = 0
    · subst he
      rw [if_pos rfl, if_pos rfl] at hf
      refine d7 Tryz.func78 rfl rfl (Nat.le_of_ble_eq_true rfl) ?_
      repeat' (first | refine b9 ?_ | refine b6 ?_ | refine a6 ?_ | refine b5 ?_ | refine e7 rfl ?_ | refine d9 rfl ?_ | ((first | refine b8 (fun K hK => ?_) | refine d3 e9 (fun K hK => ?_) | refine b7 (cp hc ?_) | refine a8 (dp hc ?_) | refine b7 (cg hf [0,1] ?_) | refine a8 (dg hf [0,1] ?_) | fail); simp -implicitDefEqProofs) | refine hK _ ?_ | refine hK _ _ (by rfl) ?_ | fail)
      refine l5 (j0 [0, 1] ?_); simp -implicitDefEqProofs [m9, f6, f7] <;> try rfl
    · rw [if_neg he, if_neg he] at hf
      refine d7 Tryz.func78 rfl rfl (Nat.le_of_ble_eq_true rfl) ?_
      repeat' (first | refine b9 ?_ | refine b6 ?_ | refine a6 ?_ | refine b5 ?_ | refine e7 rfl ?_ | refine d9 rfl ?_ | ((first | refine b8 (fun K hK => ?_) | refine d3 e9 (fun K hK => ?_) | refine b7 (cp hc ?_) | refine a8 (dp hc ?_) | refine b7 (cg hf [0,1] ?_) | refine a8 (dg hf [0,1] ?_) | fail); simp -implicitDefEqProofs [he]) | refine hK _ ?_ | refine hK _ _ (by rfl) ?_ | fail)
      refine l5 (j0 [0, 1] ?_); simp -implicitDefEqProofs [m9, f6, f7, he] <;> try rfl
  · refine d7 Tryz.func78 rfl rfl (Nat.le_of_ble_eq_true rfl) ?_
    repeat' (first | refine b9 ?_ | refine b6 ?_ | refine a6 ?_ | refine b5 ?_ | refine e7 rfl ?_ | refine d9 rfl ?_ | ((first | refine b8 (fun K hK => ?_) | refine d3 e9 (fun K hK => ?_) | refine b7 (cp hc ?_) | refine a8 (dp hc ?_) | fail); simp -implicitDefEqProofs [h]) | refine hK _ ?_ | refine hK _ _ (by rfl) ?_ | fail)
    refine l5 (j0 [0, 1] ?_); simp -implicitDefEqProofs [m9, f6, f7, h] <;> try rfl
theorem c6f (m t : VT) (j : JS) : c6e m t j = ⟨j.lo, if a62 m t = 0 ∧ j.er = 0 then t.lab.f else j.at', if a62 m t = 0 ∧ j.er = 0 then 11 else j.er⟩ := by
  unfold c6e a0z
  by_cases h : a62 m t = 0
  · by_cases h2 : j.er = 0
    · simp [h, h2]
    · simp [h, h2]
  · simp [h]
theorem b8a {α β : Type} {f : α → β} {l : List α} {k : Nat} {y : α} (h : l[k]? = some y) : (l.take (k + 1)).map f = (l.take k).map f ++ [f y] := by rw [List.take_add_one, h]; simp
theorem ptd_at {pl : List VT} (hp : b41 pl = true) {k : Nat} {qx : Lab} {ql : List VT} (h : pl[k]? = some (.mk qx ql)) : ∃ u, ql = [u] := by
  have := List.all_eq_true.1 hp _ (List.mem_of_getElem? h)
  simp [j1, Tr.kids] at this
  exact o6 (of_decide_eq_true this.2)
noncomputable def a79 (pl : List VT) : List VT := (pl.map fun q => q.kids.getD 0 z0T).map u9
theorem b9l {α : Type} {l : List α} {k : Nat} {y : α} (h : l[k]? = some y) : l.take (k + 1) = l.take k ++ [y] := by rw [List.take_add_one, h]; rfl
def StD (m ret : VT) (i : Nat) (t : VT) (j : JS) (E : List VT) (r : VT × JS) (ret' : VT) (E' : List VT) : Prop := OkV r.2.lo E' ∧ Row Tryz.prog 51 [.v (.c (.ptr 0 0)), vT t, vI (i : Nat)] [bxJ 1 m ret j.lo.length j.at' j.er, arJ E] (vT r.1) [some (bxJ 2 m ret' r.2.lo.length r.2.at' r.2.er), none, some (arJ E')]
theorem c5k (m ret : VT) (hm : m7 m) (hms : m.size ≤ 100000) (i : Nat) (hi : i ≤ 100000) (x yx : Lab) (yl : List VT) (ht : m7 (.mk x [.mk yx yl])) (hts : (Tr.mk x [Tr.mk yx yl]).size ≤ 100000) (hk : x.k = 32) (j : JS) (E : List VT) (hE : OkV j.lo E) : StD m ret i (.mk x [.mk yx yl]) j E (l3 (.mk x [.mk yx yl]), c6e m (.mk yx yl) j) ret E := by
  have hE2 := hE.2
  have hnm := a88 (.mk x [.mk yx yl]) (by omega)
  obtain ⟨⟨nx, nl⟩, hN⟩ : ∃ s, l3 (.mk x [.mk yx yl]) = s := ⟨_, rfl⟩
  rw [hN] at hnm ⊢
  clear hN
  obtain ⟨L, a, e⟩ := j
  dsimp only at hE hE2 ⊢
  rw [c6f]
  have hys := Tr.size_at (x := x) (l := [Tr.mk yx yl]) (i := 0) rfl
  have hcel := b2b m (.mk yx yl) hm (by omega) (((Tr.all_mk _ _ _).1 ht).2 _ (by simp)) (by omega)
  obtain ⟨c, hc⟩ : ∃ c, a62 m (.mk yx yl) = c := ⟨_, rfl⟩
  rw [hc] at hcel ⊢
  clear hc
  have hf := b4q m ret L.length E a e yx yl c hcel
  dsimp only
  rw [Tr.lab]
  refine ⟨hE, ?_⟩
  dsimp only
  generalize (if c = 0 ∧ e = 0 then yx.f else a) = a' at hf ⊢
  generalize (if c = 0 ∧ e = 0 then (11 : Int) else e) = e' at hf ⊢
  clear hcel
  obtain ⟨mx, ml⟩ := m
  obtain ⟨rx, rl⟩ := ret
  refine d7 Tryz.func51 rfl rfl (Nat.le_of_ble_eq_true rfl) ?_
  refine a38 1 0 12 _ 24 6 L.length (E.map tc) rfl rfl (.inr rfl) (show (1 : Nat) < 2 by decide) (show (0 : Nat) < 2 by decide) ?_
  simp [St.mvw]
  repeat' (first | refine b9 ?_ | refine b6 ?_ | refine a6 ?_ | refine b5 ?_ | refine e7 rfl ?_ | refine d9 rfl ?_ | ((first | refine b8 (fun K hK => ?_) | refine d3 e9 (fun K hK => ?_) | refine b7 (cgJ hf 0 rfl ?_) | refine a8 (dgJ hf 0 rfl ?_) | refine b7 (cp hnm ?_) | refine a8 (dp hnm ?_) | fail); simp -implicitDefEqProofs [hk]) | refine hK _ ?_ | refine hK _ _ (by rfl) ?_ | fail)
  refine d6 (a8w [] rfl ?_); simp -implicitDefEqProofs [m9, f6, f7] <;> try rfl
theorem a2x (m d : VT) : ∀ (l : List VT) (i : Nat) (j : JS), p9 m i (l ++ [d]) j = if (p9 m i l j).2.er = 0 then ((p9 m i l j).1 ++ [(b2h m (i + l.length) d (p9 m i l j).2).1], (b2h m (i + l.length) d (p9 m i l j).2).2) else p9 m i l j
  | [], i, j => by
    simp only [List.nil_append, p9, List.length_nil, Nat.add_zero]
    rfl
  | y :: l, i, j => by
    rw [List.cons_append]
    unfold p9
    by_cases h : j.er = 0
    · rw [if_pos h, if_pos h, a2x m d l]
      dsimp only
      rw [show i + 1 + l.length = i + (y :: l).length by simp; omega]
      split <;> rfl
    · rw [if_neg h, if_neg h, a2x m d l, show i + 1 + l.length = i + (y :: l).length by simp; omega]
theorem a4b (m : VT) : ∀ (l : List VT) (i : Nat) (j : JS), (p9 m i l j).1.length ≤ l.length
  | [], i, j => Nat.le_refl _
  | y :: l, i, j => by
    unfold p9
    split
    · have := a4b m l (i + 1) (b2h m i y j).2
      simp; omega
    · have := a4b m l (i + 1) j
      simp; omega
theorem a59 (m : VT) (hm : m7 m) (hms : m.size ≤ 100000) (hdec : ∀ (ret : VT) (i : Nat), i ≤ 100000 → ∀ t ∈ m.kids, m7 t → t.size ≤ 100000 → ∀ (j : JS) (E : List VT), ∃ ret' E', OkV j.lo E → StD m ret i t j E (b2h m i t j) ret' E') : Row Tryz.prog 28 [vT m] [] (vT3i (c1q m)) [] := by
  have hkin : ∀ d ∈ m.kids, m7 d ∧ d.size ≤ 100000 := fun d hd => by
    obtain ⟨x, l⟩ := m
    exact ⟨((Tr.all_mk _ _ _).1 hm).2 d hd, by have := v8 (x := x) (show d ∈ l from hd); omega⟩
  have hj0 : (a5k m).lo = [] := by unfold a5k; split; rfl; rw [c1k]
  have hjn : (a5k m).er = if m.lab.k = 36 then 0 else 12 := by unfold a5k; split; rfl; rfl
  have hja : (a5k m).at' = if m.lab.k = 36 then 0 else m.lab.f := by unfold a5k; split; rfl; rfl
  have hlm : m.kids.length < m.size := by obtain ⟨x, l⟩ := m; exact Tr.len_size (x := x) (l := l)
  have hM : c1q m = if (p9 m 0 m.kids (a5k m)).2.er = 0 then (.mk ⟨m.lab.k, m.lab.n, ⟨#[]⟩, 0, 0⟩ (p9 m 0 m.kids (a5k m)).1, 0, 0) else (z0T, (p9 m 0 m.kids (a5k m)).2.at', (p9 m 0 m.kids (a5k m)).2.er) := rfl
  obtain ⟨⟨⟨rx, rl⟩, r2, r3⟩, hR⟩ : ∃ r, c1q m = r := ⟨_, rfl⟩
  rw [hR] at hM ⊢
  clear hR
  obtain ⟨J0, hJ⟩ : ∃ J, a5k m = J := ⟨_, rfl⟩
  rw [hJ] at hj0 hjn hja hM
  clear hJ
  obtain ⟨L0, a0, e0⟩ := J0
  dsimp only at hj0 hjn hja
  subst hj0
  have hff := a89 m z0T 0 [] 0 0 m.lab m.kids 12
  rw [if_pos rfl, if_pos rfl] at hff
  have q0 : p9 m 0 (m.kids.take 0) ⟨[], a0, e0⟩ = ([], ⟨[], a0, e0⟩) := rfl
  obtain ⟨mx, ml⟩ := m
  rw [Tr.lab, Tr.kids] at *
  refine d7 Tryz.func28 rfl rfl (Nat.le_of_ble_eq_true rfl) ?_
  refine b9 ?_
  refine b8 (fun K hK => ?_); simp -implicitDefEqProofs; refine hK _ ?_
  refine b9 ?_
  refine b8 (fun K hK => ?_); simp -implicitDefEqProofs; refine hK _ ?_
  refine a08 6 12 _ 24 6 rfl rfl (by dsimp only; omega) ?_
  simp [St.nilca]
  refine a38 8 6 12 _ 24 6 0 [] rfl rfl (.inl rfl) (by dsimp only; omega) (by dsimp only; omega) ?_
  simp [St.mvw]
  refine a36 (ι := Unit) (fun _ => x5 [(1, .v (.c (.ptr 0 0))), (2, .v (.c (.ptr 1 0))), (5, .v (.c (.ptr 2 0)))] [some (.box (ta (.mk mx ml))), some zTb, some (bxJ 3 (.mk mx ml) z0T 0 a0 e0), some (arJ [])]) (fun _ => True) (fun Z hI => ?_) (fun _ _ => ?_)
  · by_cases k36 : mx.k = 36
    · rw [if_pos k36] at hjn hja
      subst hjn hja
      repeat (first | refine b9 ?_ | refine b6 ?_ | refine a6 ?_ | refine b5 ?_ | refine e7 rfl ?_ | refine d9 rfl ?_ | ((first | refine b8 (fun K hK => ?_) | refine d3 e9 (fun K hK => ?_) | fail); simp -implicitDefEqProofs [k36]; first | refine hK _ ?_ | refine hK _ _ (by rfl) ?_ | fail) | fail)
      refine ⟨(), (by trivial), ?_⟩; rw [hI]; exact e8 [0, 1, 6, 9] (by simp -implicitDefEqProofs [k36]) (by simp -implicitDefEqProofs [k36]) (by decide) rfl (by simp)
    · rw [if_neg k36] at hjn hja
      subst hjn hja
      repeat' (first | refine b9 ?_ | refine b6 ?_ | refine a6 ?_ | refine b5 ?_ | refine e7 rfl ?_ | refine d9 rfl ?_ | ((first | refine b8 (fun K hK => ?_) | refine d3 e9 (fun K hK => ?_) | refine b7 (cgJ hff 6 rfl ?_) | refine a8 (dgJ hff 6 rfl ?_) | fail); simp -implicitDefEqProofs [k36]) | refine hK _ ?_ | refine hK _ _ (by rfl) ?_ | fail)
      refine ⟨(), (by trivial), ?_⟩; rw [hI]; exact e8 [0, 1, 6, 9] (by simp -implicitDefEqProofs) (by simp -implicitDefEqProofs) (by decide) rfl (by simp)
  refine b9 ?_
  refine b8 (fun K hK => ?_); simp -implicitDefEqProofs; refine hK _ ?_
  refine a2r 9 3 _ 24 6 rfl rfl (by dsimp only; omega) ?_
  simp [St.nilc]
  repeat (first | refine b9 ?_ | refine b6 ?_ | refine a6 ?_ | refine b5 ?_ | refine e7 rfl ?_ | refine d9 rfl ?_ | ((first | refine b8 (fun K hK => ?_) | refine d3 e9 (fun K hK => ?_) | fail); simp -implicitDefEqProofs; first | refine hK _ ?_ | refine hK _ _ (by rfl) ?_ | fail) | fail)
  refine m6 (ι := Nat × VT × List VT) (fun p => x5 [(1, .v (.c (.ptr 0 0))), (2, .v (.c (.ptr 1 0))), (5, .v (.c (.ptr 2 0))), (6, .v (.c (.ptr 4 0))), (24, vLs ml), (25, vI (ml.length : Nat)), (26, vI (p.1 : Nat))] [some (.box (ta (.mk mx ml))), some zTb, some (bxJ 3 (.mk mx ml) p.2.1 (p9 (.mk mx ml) 0 (ml.take p.1) ⟨[], a0, e0⟩).2.lo.length (p9 (.mk mx ml) 0 (ml.take p.1) ⟨[], a0, e0⟩).2.at' (p9 (.mk mx ml) 0 (ml.take p.1) ⟨[], a0, e0⟩).2.er), some (arJ p.2.2), some (.box [.pv (I mx.k), .pv (I mx.n), .pv (Sx ⟨#[]⟩), .row 5 6 ((p9 (.mk mx ml) 0 (ml.take p.1) ⟨[], a0, e0⟩).1.map tc), .pv (I 0), .pv (I 0)]), some (.row 24 6)]) (fun p => p.1 ≤ ml.length ∧ OkV (p9 (.mk mx ml) 0 (ml.take p.1) ⟨[], a0, e0⟩).2.lo p.2.2) (fun p => ml.length - p.1) (0, z0T, []) ⟨Nat.zero_le _, by rw [q0]; exact a1e _⟩ (by dsimp only; rw [q0]; exact e8 [0, 1, 2, 3, 9, 11] (by simp -implicitDefEqProofs) (by simp -implicitDefEqProofs) (by decide) rfl (by simp)) (fun Z hI p hp => ?_)
  obtain ⟨k, ⟨ox, ol⟩, E⟩ := p
  obtain ⟨hk, hE⟩ := hp
  dsimp only at hk hE ⊢
  by_cases hkl : k < ml.length; rotate_left
  · have : k = ml.length := by omega
    subst this
    rw [List.take_length] at hE ⊢
    obtain ⟨⟨acc, ⟨L1, a1, e1⟩⟩, hS⟩ : ∃ s, p9 (.mk mx ml) 0 ml ⟨[], a0, e0⟩ = s := ⟨_, rfl⟩
    rw [hS] at hM ⊢
    dsimp only at hM ⊢
    by_cases he : e1 = 0
    · subst he
      rw [if_pos rfl] at hM
      cases hM
      repeat (first | refine b9 ?_ | refine b6 ?_ | refine a6 ?_ | refine b5 ?_ | refine e7 rfl ?_ | refine d9 rfl ?_ | ((first | refine b8 (fun K hK => ?_) | refine d3 e9 (fun K hK => ?_) | fail); simp -implicitDefEqProofs; first | refine hK _ ?_ | refine hK _ _ (by rfl) ?_ | fail) | fail)
      refine d6 (d4 ?_); simp -implicitDefEqProofs [f9, f6, f7] <;> try rfl
    · rw [if_neg he] at hM
      cases hM
      repeat (first | refine b9 ?_ | refine b6 ?_ | refine a6 ?_ | refine b5 ?_ | refine e7 rfl ?_ | refine d9 rfl ?_ | ((first | refine b8 (fun K hK => ?_) | refine d3 e9 (fun K hK => ?_) | fail); simp -implicitDefEqProofs [he]; first | refine hK _ ?_ | refine hK _ _ (by rfl) ?_ | fail) | fail)
      refine d6 (d4 ?_); simp -implicitDefEqProofs [f9, f6, f7, he] <;> try rfl
  obtain ⟨⟨yx, yl⟩, hy⟩ : ∃ y, ml[k]? = some y := ⟨_, List.getElem?_eq_getElem hkl⟩
  have hy' := (List.getElem?_eq_some_iff.1 hy).2
  have w2 : IntKind.i64.wrap ((k : Nat) + 1 : Int) = (k : Nat) + 1 := l4 _ (by omega) (by omega)
  have hs := a2x (.mk mx ml) (.mk yx yl) (ml.take k) 0 ⟨[], a0, e0⟩
  rw [← b9l hy, List.length_take, Nat.min_eq_left hk, Nat.zero_add] at hs
  have hal := a4b (.mk mx ml) (ml.take k) 0 ⟨[], a0, e0⟩
  rw [List.length_take, Nat.min_eq_left hk] at hal
  obtain ⟨⟨acc, ⟨L1, a1, e1⟩⟩, hS⟩ : ∃ s, p9 (.mk mx ml) 0 (ml.take k) ⟨[], a0, e0⟩ = s := ⟨_, rfl⟩
  rw [hS] at hE hs hal ⊢
  dsimp only at hE hs hal ⊢
  by_cases he : e1 = 0
  · subst he
    rw [if_pos rfl] at hs
    obtain ⟨q1, q2⟩ := hkin _ (List.mem_of_getElem? hy)
    obtain ⟨⟨zx, zl⟩, E', hd⟩ := hdec (.mk ox ol) k (by omega) (.mk yx yl) (List.mem_of_getElem? hy) q1 q2 ⟨L1, a1, 0⟩ E
    obtain ⟨ok, hr⟩ := hd hE
    obtain ⟨⟨⟨sx, sl⟩, ⟨L2, a2, e2⟩⟩, hT⟩ : ∃ s, b2h (.mk mx ml) k (.mk yx yl) ⟨L1, a1, 0⟩ = s := ⟨_, rfl⟩
    rw [hT] at hs ok hr
    dsimp only at hs ok hr
    have b1 : (acc.length + 1) * 72 ≤ 140737488355328 := by omega
    have b2 : acc.length + 1 ≤ 140737488355328 := by omega
    clear hdec hkin hM hff q0 hS hT hd
    repeat' (first | refine b9 ?_ | refine b6 ?_ | refine a6 ?_ | refine b5 ?_ | refine e7 rfl ?_ | refine d9 rfl ?_ | ((first | refine b8 (fun K hK => ?_) | refine d3 e9 (fun K hK => ?_) | refine b7 (cgJ hr 2 rfl ?_) | refine a8 (dgJ hr 2 rfl ?_) | fail); simp -implicitDefEqProofs [hkl, hy, hy', w2, b1, b2]) | refine hK _ ?_ | refine hK _ _ (by rfl) ?_ | fail)
    refine ⟨(k + 1, .mk zx zl, E'), ⟨hkl, by dsimp only; rw [hs]; exact ok⟩, (by dsimp only; omega), ?_⟩
    rw [hI]
    dsimp only
    rw [hs]
    exact e8 [0, 1, 2, 58, 4, 74] (by simp -implicitDefEqProofs) (by simp -implicitDefEqProofs) (by decide) rfl (by simp)
  · rw [if_neg he] at hs
    clear hdec hkin hM hff q0 hS
    repeat (first | refine b9 ?_ | refine b6 ?_ | refine a6 ?_ | refine b5 ?_ | refine e7 rfl ?_ | refine d9 rfl ?_ | ((first | refine b8 (fun K hK => ?_) | refine d3 e9 (fun K hK => ?_) | fail); simp -implicitDefEqProofs [hkl, hy, hy', w2, he]; first | refine hK _ ?_ | refine hK _ _ (by rfl) ?_ | fail) | fail)
    refine ⟨(k + 1, .mk ox ol, E), ⟨hkl, by dsimp only; rw [hs]; exact hE⟩, (by dsimp only; omega), ?_⟩
    rw [hI]
    dsimp only
    rw [hs]
    exact e8 [0, 1, 2, 3, 4, 5] (by simp -implicitDefEqProofs) (by simp -implicitDefEqProofs) (by decide) rfl (by simp)
theorem b5q (m : VT) (hms : m.size ≤ 900000) (L E : List VT) (x : Lab) (l : List VT) (hx : x.ok) (a : VT) (ha : m7 a) (F : List VT) : Row Tryz.prog 128 [.v (.c (.ptr 0 0)), vT (.mk x l), .v (.c (.ptr 2 0)), fnK 3] [bxV m L 0 0, arJ E, bxT (.mk ⟨x.k, x.n, ⟨#[]⟩, 0, 0⟩ F), bxK [a]] (vTO (b7k m x a).ty (b7k m x a).ok) [some (bxV m L (if (b7k m x a).er = 0 then 0 else x.f) (b7k m x a).er), some (arJ E), some (bxT (.mk ⟨x.k, (b7k m x a).n, ⟨#[]⟩, 0, 0⟩ F)), some (bxK [a])] := by
  obtain ⟨ax, al⟩ := a
  have hax := ((Tr.all_mk _ _ _).1 ha).1
  have h0 := u6 [.mk ax al] 0 ax al rfl
  rw [show ((0 : Nat) : Int) = 0 from rfl] at h0
  unfold b7k
  rw [Tr.lab, Tr.kids]
  by_cases a4 : ax.k = 4; rotate_left
  · rw [if_neg (fun h => a4 h.1)]
    obtain ⟨mx, ml⟩ := m
    refine d7 Tryz.func128 rfl rfl (Nat.le_of_ble_eq_true rfl) ?_
    repeat' (first | refine b9 ?_ | refine b6 ?_ | refine a6 ?_ | refine b5 ?_ | refine e7 rfl ?_ | refine d9 rfl ?_ | ((first | refine b8 (fun K hK => ?_) | refine d3 e9 (fun K hK => ?_) | refine b7 (cb h0 3 ?_) | refine a8 (db h0 3 ?_) | fail); simp -implicitDefEqProofs [a4]) | refine hK _ ?_ | refine hK _ _ (by rfl) ?_ | fail)
    refine d6 (j0 [0, 1, 2, 3] ?_); simp -implicitDefEqProofs [m9, f6, f7] <;> try rfl
  by_cases a0 : al.length = 0; rotate_left
  · have a0' : ¬ (al.length : Int) = 0 := by omega
    rw [if_neg (fun h => a0 h.2)]
    obtain ⟨mx, ml⟩ := m
    refine d7 Tryz.func128 rfl rfl (Nat.le_of_ble_eq_true rfl) ?_
    repeat' (first | refine b9 ?_ | refine b6 ?_ | refine a6 ?_ | refine b5 ?_ | refine e7 rfl ?_ | refine d9 rfl ?_ | ((first | refine b8 (fun K hK => ?_) | refine d3 e9 (fun K hK => ?_) | refine b7 (cb h0 3 ?_) | refine a8 (db h0 3 ?_) | fail); simp -implicitDefEqProofs [a4, a0, a0']) | refine hK _ ?_ | refine hK _ _ (by rfl) ?_ | fail)
    refine d6 (j0 [0, 1, 2, 3] ?_); simp -implicitDefEqProofs [m9, f6, f7] <;> try rfl
  obtain rfl := List.eq_nil_of_length_eq_zero a0
  rw [if_pos ⟨a4, rfl⟩]
  have hin := b7v (m := m) (by omega) hx ax.n
  have hfi := b03 m (by omega) (a3m m x ax.n) hin
  have hnu := b12 m (by omega) L E 0 0 ax.n hax.2.1.2 x.s
  have hfl := a0l m L E 0 0 x l 8
  have hfp : c5e m x ax.n = if (fldA m (a3m m x ax.n)).isSome = true ∧ a3m m x ax.n / 64 = ax.n then fldA m (a3m m x ax.n) else none := rfl
  have hpos : (fldA m (a3m m x ax.n)).isSome = true → 0 ≤ a3m m x ax.n := fun h => b2v h
  have hsz := a19 m (a3m m x ax.n)
  have hnm : ¬ x.s = ⟨#[]⟩ → b54 m ax.n x.s = a3m m x ax.n := fun h => by unfold a3m; rw [if_neg h]
  have hn0 : x.s = ⟨#[]⟩ → x.n = a3m m x ax.n := fun h => by unfold a3m; rw [if_pos h]
  obtain ⟨n, hn⟩ : ∃ n, a3m m x ax.n = n := ⟨_, rfl⟩
  rw [hn] at hin hfi hfp hpos hsz hnm hn0 ⊢
  rw [hfp]
  cases hF : fldA m n with
  | none =>
    rw [hF] at hfi
    rw [if_neg (by simp)]
    simp only [Option.getD_none, Option.isSome_none] at hfi
    rw [if_pos rfl, if_pos rfl] at hfl
    clear hsz hpos hfp hF hn
    obtain ⟨mx, ml⟩ := m
    by_cases cs : x.s = ⟨#[]⟩
    · have e := hn0 cs
      clear hnm hn0 hnu
      subst e
      refine d7 Tryz.func128 rfl rfl (Nat.le_of_ble_eq_true rfl) ?_
      repeat' (first | refine b9 ?_ | refine b6 ?_ | refine a6 ?_ | refine b5 ?_ | refine e7 rfl ?_ | refine d9 rfl ?_ | ((first | refine b8 (fun K hK => ?_) | refine d3 e9 (fun K hK => ?_) | refine b7 (cb h0 3 ?_) | refine a8 (db h0 3 ?_) | refine b7 (cp hfi ?_) | refine a8 (dp hfi ?_) | refine b7 (cg hfl [0,1] ?_) | refine a8 (dg hfl [0,1] ?_) | fail); simp -implicitDefEqProofs [a4, cs]) | refine hK _ ?_ | refine hK _ _ (by rfl) ?_ | fail)
      refine d6 (j0 [0, 1, 2, 3] ?_); simp -implicitDefEqProofs [m9, f6, f7] <;> try rfl
    · have e := hnm cs
      rw [e] at hnu
      clear hnm hn0 e
      refine d7 Tryz.func128 rfl rfl (Nat.le_of_ble_eq_true rfl) ?_
      repeat' (first | refine b9 ?_ | refine b6 ?_ | refine a6 ?_ | refine b5 ?_ | refine e7 rfl ?_ | refine d9 rfl ?_ | ((first | refine b8 (fun K hK => ?_) | refine d3 e9 (fun K hK => ?_) | refine b7 (cb h0 3 ?_) | refine a8 (db h0 3 ?_) | refine b7 (cg hnu [0,1] ?_) | refine a8 (dg hnu [0,1] ?_) | refine b7 (cp hfi ?_) | refine a8 (dp hfi ?_) | refine b7 (cg hfl [0,1] ?_) | refine a8 (dg hfl [0,1] ?_) | fail); simp -implicitDefEqProofs [a4, cs]) | refine hK _ ?_ | refine hK _ _ (by rfl) ?_ | fail)
      refine d6 (j0 [0, 1, 2, 3] ?_); simp -implicitDefEqProofs [m9, f6, f7] <;> try rfl
  | some k =>
    rw [hF] at hfi hpos hsz
    simp only [Option.getD_some, Option.isSome_some] at hfi hpos hsz
    have hp := hpos trivial
    have wq : IntKind.i64.wrap (n.tdiv 64) = n / 64 := by
      rw [Int.tdiv_eq_ediv_of_nonneg hp]
      exact l4 _ (by omega) (by omega)
    have hba := a14 k (by omega)
    obtain ⟨kx, kl⟩ := k
    obtain ⟨⟨ux, ul⟩, hu⟩ : ∃ t, u9 (.mk kx kl) = t := ⟨_, rfl⟩
    rw [hu] at hba
    by_cases hr : n / 64 = ax.n; rotate_left
    · rw [if_neg (fun h => hr h.2)]
      rw [if_pos rfl, if_pos rfl] at hfl
      clear hsz hpos hfp hF hn hu hba
      obtain ⟨mx, ml⟩ := m
      by_cases cs : x.s = ⟨#[]⟩
      · have e := hn0 cs
        clear hnm hn0 hnu
        subst e
        refine d7 Tryz.func128 rfl rfl (Nat.le_of_ble_eq_true rfl) ?_
        repeat' (first | refine b9 ?_ | refine b6 ?_ | refine a6 ?_ | refine b5 ?_ | refine e7 rfl ?_ | refine d9 rfl ?_ | ((first | refine b8 (fun K hK => ?_) | refine d3 e9 (fun K hK => ?_) | refine b7 (cb h0 3 ?_) | refine a8 (db h0 3 ?_) | refine b7 (cp hfi ?_) | refine a8 (dp hfi ?_) | refine b7 (cg hfl [0,1] ?_) | refine a8 (dg hfl [0,1] ?_) | fail); simp -implicitDefEqProofs [a4, cs, wq, hr]) | refine hK _ ?_ | refine hK _ _ (by rfl) ?_ | fail)
        refine d6 (j0 [0, 1, 2, 3] ?_); simp -implicitDefEqProofs [m9, f6, f7] <;> try rfl
      · have e := hnm cs
        rw [e] at hnu
        clear hnm hn0 e
        refine d7 Tryz.func128 rfl rfl (Nat.le_of_ble_eq_true rfl) ?_
        repeat' (first | refine b9 ?_ | refine b6 ?_ | refine a6 ?_ | refine b5 ?_ | refine e7 rfl ?_ | refine d9 rfl ?_ | ((first | refine b8 (fun K hK => ?_) | refine d3 e9 (fun K hK => ?_) | refine b7 (cb h0 3 ?_) | refine a8 (db h0 3 ?_) | refine b7 (cg hnu [0,1] ?_) | refine a8 (dg hnu [0,1] ?_) | refine b7 (cp hfi ?_) | refine a8 (dp hfi ?_) | refine b7 (cg hfl [0,1] ?_) | refine a8 (dg hfl [0,1] ?_) | fail); simp -implicitDefEqProofs [a4, cs, wq, hr]) | refine hK _ ?_ | refine hK _ _ (by rfl) ?_ | fail)
        refine d6 (j0 [0, 1, 2, 3] ?_); simp -implicitDefEqProofs [m9, f6, f7] <;> try rfl
    rw [if_pos ⟨rfl, hr⟩]
    dsimp only
    rw [hu]
    clear hsz hpos hfp hF hn hu hfl
    obtain ⟨mx, ml⟩ := m
    by_cases cs : x.s = ⟨#[]⟩
    · have e := hn0 cs
      clear hnm hn0 hnu
      subst e
      refine d7 Tryz.func128 rfl rfl (Nat.le_of_ble_eq_true rfl) ?_
      repeat' (first | refine b9 ?_ | refine b6 ?_ | refine a6 ?_ | refine b5 ?_ | refine e7 rfl ?_ | refine d9 rfl ?_ | ((first | refine b8 (fun K hK => ?_) | refine d3 e9 (fun K hK => ?_) | refine b7 (cb h0 3 ?_) | refine a8 (db h0 3 ?_) | refine b7 (cp hfi ?_) | refine a8 (dp hfi ?_) | refine b7 (cp hba ?_) | refine a8 (dp hba ?_) | fail); simp -implicitDefEqProofs [a4, cs, wq, hr]) | refine hK _ ?_ | refine hK _ _ (by rfl) ?_ | fail)
      refine d6 (j0 [0, 1, 2, 3] ?_); simp -implicitDefEqProofs [m9, f6, f7] <;> try rfl
    · have e := hnm cs
      rw [e] at hnu
      clear hnm hn0 e
      refine d7 Tryz.func128 rfl rfl (Nat.le_of_ble_eq_true rfl) ?_
      repeat' (first | refine b9 ?_ | refine b6 ?_ | refine a6 ?_ | refine b5 ?_ | refine e7 rfl ?_ | refine d9 rfl ?_ | ((first | refine b8 (fun K hK => ?_) | refine d3 e9 (fun K hK => ?_) | refine b7 (cb h0 3 ?_) | refine a8 (db h0 3 ?_) | refine b7 (cg hnu [0,1] ?_) | refine a8 (dg hnu [0,1] ?_) | refine b7 (cp hfi ?_) | refine a8 (dp hfi ?_) | refine b7 (cp hba ?_) | refine a8 (dp hba ?_) | fail); simp -implicitDefEqProofs [a4, cs, wq, hr]) | refine hK _ ?_ | refine hK _ _ (by rfl) ?_ | fail)
      refine d6 (j0 [0, 1, 2, 3] ?_); simp -implicitDefEqProofs [m9, f6, f7] <;> try rfl
theorem b93 (m : VT) (hm : m7 m) (hms : m.size ≤ 1000000) (L E : List VT) (x : Lab) (l : List VT) (p : List VT) (hlp : l.length = p.length) (h1 : 0 < p.length) (hp : ∀ a ∈ p, m7 a ∧ a.size ≤ 900000) (hpl : p.length ≤ 900000) : Row Tryz.prog 129 [.v (.c (.ptr 0 0)), vT (.mk x l), fnK 2] [bxV m L 0 0, arJ E, bxK p] (vTO (b51 m x p).ty (b51 m x p).ok) [some (bxV m L (if (b51 m x p).er = 0 then 0 else x.f) (b51 m x p).er), some (arJ E), some (bxK p)] := by
  obtain ⟨⟨ax, al⟩, ha⟩ : ∃ a, p[0]? = some a := ⟨_, List.getElem?_eq_getElem h1⟩
  have ha' := (List.getElem?_eq_some_iff.1 ha).2
  have hg : p.getD 0 z0T = .mk ax al := by simp [List.getD, ha]
  have hpa := hp _ (List.mem_of_getElem? ha)
  have h0 := u6 p 0 ax al ha
  rw [show ((0 : Nat) : Int) = 0 from rfl] at h0
  have hcel := b2b m (.mk ⟨3, p.length, ⟨#[]⟩, 0, 0⟩ [.mk ax al]) hm hms ((Tr.all_mk _ _ _).2 ⟨by simp [Lab.ok]; omega, fun y hy => by simp at hy; subst hy; exact hpa.1⟩) (by rw [Tr.size_mk]; simp only [List.map_cons, List.map_nil, List.sum_cons, List.sum_nil]; omega)
  have hfl := a0l m L E 0 0 x l 11
  rw [if_pos rfl, if_pos rfl] at hfl
  unfold b51
  rw [hg]
  obtain ⟨c, hc⟩ : ∃ c, a62 m (.mk ⟨3, p.length, ⟨#[]⟩, 0, 0⟩ [.mk ax al]) = c := ⟨_, rfl⟩
  rw [hc] at hcel ⊢
  clear hc hg
  have hno : ∀ (j : Nat) y, 1 ≤ j → p[j]? = some y → same (.mk ax al) y = false → (p.drop 1).all (fun a => same (.mk ax al) a) = false := fun j y h1 h2 h3 => c1g h1 h2 h3
  have hyes : (∀ (j : Nat) y, 1 ≤ j → p[j]? = some y → same (.mk ax al) y = true) → (p.drop 1).all (fun a => same (.mk ax al) a) = true := fun h => b7g (fun j y h1 h2 => h j y h1 h2)
  obtain ⟨R, hR⟩ : ∃ R, (p.drop 1).all (fun a => same (.mk ax al) a) = R := ⟨_, rfl⟩
  rw [hR] at hyes ⊢
  simp only [hR] at hno
  clear hR
  have wl : IntKind.i64.wrap ((p.length : Nat) : Int) = (p.length : Nat) := l4 _ (by omega) (by omega)
  obtain ⟨mx, ml⟩ := m
  refine d7 Tryz.func129 rfl rfl (Nat.le_of_ble_eq_true rfl) ?_
  repeat (first | refine b9 ?_ | refine b6 ?_ | refine a6 ?_ | refine b5 ?_ | refine e7 rfl ?_ | refine d9 rfl ?_ | ((first | refine b8 (fun K hK => ?_) | refine d3 e9 (fun K hK => ?_) | fail); simp -implicitDefEqProofs; first | refine hK _ ?_ | refine hK _ _ (by rfl) ?_ | fail) | fail)
  refine m6 (ι := Nat) (fun k => x5 [(0, .v (.c (.ptr 0 0))), (2, fnK 2), (4, .v (.c (.ptr 3 0))), (6, .v (.c (.ptr 4 0))), (7, vB false), (8, vI (k : Nat))] [some (bxV (.mk mx ml) L 0 0), some (arJ E), some (bxK p), some (.box (ta (.mk x l))), some (.box (ta z0T))]) (fun k => 1 ≤ k ∧ k ≤ p.length ∧ ∀ (j : Nat) y, 1 ≤ j → j < k → p[j]? = some y → same (.mk ax al) y = true) (fun k => p.length - k) 1 ⟨Nat.le_refl _, by omega, fun j y h1 h2 => by omega⟩ (e8 [0, 1, 2, 3, 4] (by simp -implicitDefEqProofs) (by simp -implicitDefEqProofs) (by decide) rfl (by simp)) (fun Z hI k hk => ?_)
  obtain ⟨hk1, hk, hz⟩ := hk
  by_cases hkl : k < p.length; rotate_left
  · have : k = p.length := by omega
    subst this
    have hR := hyes (fun j y g1 g2 => hz j y g1 (List.getElem?_eq_some_iff.1 g2).1 g2)
    subst hR
    clear hyes hno
    by_cases c0 : c = 0
    · repeat' (first | refine b9 ?_ | refine b6 ?_ | refine a6 ?_ | refine b5 ?_ | refine e7 rfl ?_ | refine d9 rfl ?_ | ((first | refine b8 (fun K hK => ?_) | refine d3 e9 (fun K hK => ?_) | refine b7 (cb h0 2 ?_) | refine a8 (db h0 2 ?_) | refine b7 (cp hcel ?_) | refine a8 (dp hcel ?_) | refine b7 (cg hfl [0,1] ?_) | refine a8 (dg hfl [0,1] ?_) | fail); simp -implicitDefEqProofs [hlp, c0, wl]) | refine hK _ ?_ | refine hK _ _ (by rfl) ?_ | fail)
      refine d6 (j0 [0, 1, 2] ?_); simp -implicitDefEqProofs [m9, f6, f7, c0] <;> try rfl
    · repeat' (first | refine b9 ?_ | refine b6 ?_ | refine a6 ?_ | refine b5 ?_ | refine e7 rfl ?_ | refine d9 rfl ?_ | ((first | refine b8 (fun K hK => ?_) | refine d3 e9 (fun K hK => ?_) | refine b7 (cb h0 2 ?_) | refine a8 (db h0 2 ?_) | refine b7 (cp hcel ?_) | refine a8 (dp hcel ?_) | fail); simp -implicitDefEqProofs [hlp, c0, wl]) | refine hK _ ?_ | refine hK _ _ (by rfl) ?_ | fail)
      refine d6 (j0 [0, 1, 2] ?_); simp -implicitDefEqProofs [m9, f6, f7, c0] <;> try rfl
  have hkl' : ((k : Nat) : Int) < (p.length : Nat) := by omega
  obtain ⟨⟨bx, bl⟩, hb⟩ : ∃ a, p[k]? = some a := ⟨_, List.getElem?_eq_getElem hkl⟩
  have hkp := u6 p k bx bl hb
  have w2 : IntKind.i64.wrap ((k : Nat) + 1 : Int) = (k : Nat) + 1 := l4 _ (by omega) (by omega)
  have hs := a49 (.mk ax al) (by omega) (.mk bx bl) (by have := (hp _ (List.mem_of_getElem? hb)).2; omega)
  obtain ⟨q, hq⟩ : ∃ q, same (.mk ax al) (.mk bx bl) = q := ⟨_, rfl⟩
  rw [hq] at hs
  cases q with
  | true =>
    clear hyes hno
    repeat' (first | refine b9 ?_ | refine b6 ?_ | refine a6 ?_ | refine b5 ?_ | refine e7 rfl ?_ | refine d9 rfl ?_ | ((first | refine b8 (fun K hK => ?_) | refine d3 e9 (fun K hK => ?_) | refine b7 (cb h0 2 ?_) | refine a8 (db h0 2 ?_) | refine b7 (cb hkp 2 ?_) | refine a8 (db hkp 2 ?_) | refine b7 (cp hs ?_) | refine a8 (dp hs ?_) | fail); simp -implicitDefEqProofs [hlp, hkl, hkl', w2]) | refine hK _ ?_ | refine hK _ _ (by rfl) ?_ | fail)
    refine ⟨k + 1, ⟨by omega, by omega, fun j y g1 g2 g3 => ?_⟩, (by dsimp only; omega), ?_⟩
    · by_cases hj : j = k
      · subst hj; rw [hb] at g3; cases g3; exact hq
      · exact hz j y g1 (by omega) g3
    · rw [hI]; exact e8 [0, 1, 2, 3, 4] (by simp -implicitDefEqProofs) (by simp -implicitDefEqProofs) (by decide) rfl (by simp)
  | false =>
    have hR := hno k _ hk1 hb hq
    subst hR
    clear hyes hno
    repeat' (first | refine b9 ?_ | refine b6 ?_ | refine a6 ?_ | refine b5 ?_ | refine e7 rfl ?_ | refine d9 rfl ?_ | ((first | refine b8 (fun K hK => ?_) | refine d3 e9 (fun K hK => ?_) | refine b7 (cb h0 2 ?_) | refine a8 (db h0 2 ?_) | refine b7 (cb hkp 2 ?_) | refine a8 (db hkp 2 ?_) | refine b7 (cp hs ?_) | refine a8 (dp hs ?_) | fail); simp -implicitDefEqProofs [hlp, hkl, hkl']) | refine hK _ ?_ | refine hK _ _ (by rfl) ?_ | fail)
    refine d6 (j0 [0, 1, 2] ?_); simp -implicitDefEqProofs [m9, f6, f7] <;> try rfl
theorem b94 (m : VT) (hm : m7 m) (hms : m.size ≤ 900000) (L E : List VT) (hE : OkV L E) (hL : ∀ t ∈ L, t.size ≤ 900000) (hLl : L.length ≤ 900000) (x : Lab) (l : List VT) (hx : x.ok) (p : List VT) (hlp : l.length = p.length) (hp : ∀ a ∈ p, m7 a ∧ a.size ≤ 900000) (hpl : p.length ≤ 900000) (hsh : j7 x l.length = true) (hkn : c0e m L.length x = true) (F : List VT) : Row Tryz.prog 84 [.v (.c (.ptr 0 0)), vT (.mk x l), .v (.c (.ptr 2 0)), fnK 3] [bxV m L 0 0, arJ E, bxT (.mk ⟨x.k, x.n, ⟨#[]⟩, 0, 0⟩ F), bxK p] (vTO (a2p m L x p).ty (a2p m L x p).ok) [some (bxV m L (if (a2p m L x p).er = 0 then 0 else x.f) (a2p m L x p).er), some (arJ E), some (bxT (.mk ⟨x.k, (a2p m L x p).n, ⟨#[]⟩, 0, 0⟩ F)), some (bxK p)] := by
  obtain ⟨n7, n89, n15, n16⟩ := c5l hkn
  have hmk : m.kids.length < m.size := by obtain ⟨mx, ml⟩ := m; exact Tr.len_size (x := mx) (l := ml)
  have wm : IntKind.i64.wrap ((m.kids.length : Nat) : Int) = (m.kids.length : Nat) := l4 _ (by omega) (by omega)
  unfold a2p
  by_cases c7 : x.k = 7
  · rw [if_pos c7]
    obtain ⟨g0, g1⟩ := n7 c7
    obtain ⟨n, hn⟩ : ∃ n : Nat, x.n = n := ⟨x.n.toNat, by omega⟩
    rw [hn, Int.toNat_natCast]
    obtain ⟨j, hj⟩ : ∃ j, L.length - 1 - n = j := ⟨_, rfl⟩
    have hjl : j < L.length := by omega
    obtain ⟨⟨ax, al⟩, ha⟩ : ∃ a, L[j]? = some a := ⟨_, List.getElem?_eq_getElem hjl⟩
    have hae : E[j]? = some (.mk ax al) := by rw [okV_at hE hjl]; exact ha
    have ha' := (List.getElem?_eq_some_iff.1 hae).2
    have hjE := (List.getElem?_eq_some_iff.1 hae).1
    have hjl' : ((j : Nat) : Int) < (L.length : Nat) := by omega
    rw [hj, show L.getD j z0T = .mk ax al by simp [List.getD, ha]]
    have hb := a14 (.mk ax al) (by have := hL _ (List.mem_of_getElem? ha); omega)
    have w0 : IntKind.i64.wrap ((n : Nat) : Int) = (n : Nat) := l4 _ (by omega) (by omega)
    have w1 : IntKind.i64.wrap ((L.length : Nat) - 1 : Int) = (L.length : Nat) - 1 := l4 _ (by omega) (by omega)
    have w2 : IntKind.i64.wrap ((L.length : Nat) - 1 - (n : Nat) : Int) = (j : Nat) := by rw [l4 _ (by omega) (by omega)]; omega
    obtain ⟨⟨bx, bl⟩, hbb⟩ : ∃ b, u9 (.mk ax al) = b := ⟨_, rfl⟩
    rw [hbb] at hb ⊢
    clear hbb n7 n89 n15 n16 hp
    obtain ⟨mx, ml⟩ := m
    refine d7 Tryz.func84 rfl rfl (Nat.le_of_ble_eq_true rfl) ?_
    repeat' (first | refine b9 ?_ | refine b6 ?_ | refine a6 ?_ | refine b5 ?_ | refine e7 rfl ?_ | refine d9 rfl ?_ | ((first | refine b8 (fun K hK => ?_) | refine d3 e9 (fun K hK => ?_) | refine b7 (cp hb ?_) | refine a8 (dp hb ?_) | fail); simp -implicitDefEqProofs [c7, hn, hE.2, hjl, hjl', hjE, hae, ha', w0, w1, w2]) | refine hK _ ?_ | refine hK _ _ (by rfl) ?_ | fail)
    refine d6 (j0 [0, 1, 2, 3] ?_); simp -implicitDefEqProofs [m9, f6, f7, c7, hn] <;> try rfl
  rw [if_neg c7]
  by_cases c8 : x.k = 8
  · rw [if_pos c8]
    obtain ⟨g0, dx, ⟨ex, el⟩, hd⟩ := n89 (.inl c8)
    obtain ⟨n, hn⟩ : ∃ n : Nat, x.n = n := ⟨x.n.toNat, by omega⟩
    rw [hn, Int.toNat_natCast] at hd ⊢
    have hnl := (List.getElem?_eq_some_iff.1 hd).1
    have hd' := (List.getElem?_eq_some_iff.1 hd).2
    rw [show m.kids.getD n z0T = .mk dx [.mk ex el] by simp [List.getD, hd], Tr.kids]
    have hl := a7l ex el
    rw [show [Tr.mk ex el].getD 0 z0T = .mk ex el from rfl]
    have w0 : IntKind.i64.wrap ((n : Nat) : Int) = (n : Nat) := l4 _ (by omega) (by omega)
    obtain ⟨⟨bx, bl⟩, hbb⟩ : ∃ b, a0u (.mk ex el) = b := ⟨_, rfl⟩
    rw [hbb] at hl ⊢
    clear hbb n7 n89 n15 n16 hp
    obtain ⟨mx, ml⟩ := m
    simp only [Tr.kids] at hnl hd hd'
    refine d7 Tryz.func84 rfl rfl (Nat.le_of_ble_eq_true rfl) ?_
    repeat' (first | refine b9 ?_ | refine b6 ?_ | refine a6 ?_ | refine b5 ?_ | refine e7 rfl ?_ | refine d9 rfl ?_ | ((first | refine b8 (fun K hK => ?_) | refine d3 e9 (fun K hK => ?_) | refine b7 (cp hl ?_) | refine a8 (dp hl ?_) | fail); simp -implicitDefEqProofs [c8, hn, hnl, hd, hd', w0]) | refine hK _ ?_ | refine hK _ _ (by rfl) ?_ | fail)
    refine d6 (j0 [0, 1, 2, 3] ?_); simp -implicitDefEqProofs [m9, f6, f7, c8, hn] <;> try rfl
  rw [if_neg c8]
  by_cases c9 : x.k = 9
  · rw [if_pos c9]
    obtain ⟨g0, dx, ⟨ex, el⟩, hd⟩ := n89 (.inr c9)
    obtain ⟨n, hn⟩ : ∃ n : Nat, x.n = n := ⟨x.n.toNat, by omega⟩
    rw [hn, Int.toNat_natCast] at hd ⊢
    have hnl := (List.getElem?_eq_some_iff.1 hd).1
    have hd' := (List.getElem?_eq_some_iff.1 hd).2
    have s1 := j8 (List.mem_of_getElem? hd)
    have s2 := Tr.size_at (x := dx) (l := [.mk ex el]) (i := 0) rfl
    rw [show m.kids.getD n z0T = .mk dx [.mk ex el] by simp [List.getD, hd], Tr.kids]
    have hl := a14 (.mk ex el) (by omega)
    rw [show [Tr.mk ex el].getD 0 z0T = .mk ex el from rfl]
    have w0 : IntKind.i64.wrap ((n : Nat) : Int) = (n : Nat) := l4 _ (by omega) (by omega)
    obtain ⟨⟨bx, bl⟩, hbb⟩ : ∃ b, u9 (.mk ex el) = b := ⟨_, rfl⟩
    rw [hbb] at hl ⊢
    clear hbb n7 n89 n15 n16 hp
    obtain ⟨mx, ml⟩ := m
    simp only [Tr.kids] at hnl hd hd'
    refine d7 Tryz.func84 rfl rfl (Nat.le_of_ble_eq_true rfl) ?_
    repeat' (first | refine b9 ?_ | refine b6 ?_ | refine a6 ?_ | refine b5 ?_ | refine e7 rfl ?_ | refine d9 rfl ?_ | ((first | refine b8 (fun K hK => ?_) | refine d3 e9 (fun K hK => ?_) | refine b7 (cp hl ?_) | refine a8 (dp hl ?_) | fail); simp -implicitDefEqProofs [c9, hn, hnl, hd, hd', w0]) | refine hK _ ?_ | refine hK _ _ (by rfl) ?_ | fail)
    refine d6 (j0 [0, 1, 2, 3] ?_); simp -implicitDefEqProofs [m9, f6, f7, c9, hn] <;> try rfl
  rw [if_neg c9]
  clear n7 n89
  by_cases c10 : x.k = 10
  · rw [if_pos c10]
    have hl2 : p.length = 2 := by rw [hlp] at hsh; unfold j7 at hsh; simp [c10] at hsh; exact hsh.1.1
    obtain ⟨⟨ax, al⟩, ⟨bx, bl⟩, rfl⟩ := a9z hl2
    have ht := c2x m L E x l (.mk ax al) (.mk bx bl)
    rw [show [Tr.mk ax al, .mk bx bl].getD 0 z0T = .mk ax al from rfl, show [Tr.mk ax al, .mk bx bl].getD 1 z0T = .mk bx bl from rfl]
    obtain ⟨⟨⟨ux, ul⟩, q⟩, hu⟩ : ∃ t, c0h x.n (.mk ax al) (.mk bx bl) = t := ⟨_, rfl⟩
    rw [hu] at ht ⊢
    dsimp only at ht ⊢
    clear hu n15 n16 hp
    obtain ⟨mx, ml⟩ := m
    refine d7 Tryz.func84 rfl rfl (Nat.le_of_ble_eq_true rfl) ?_
    repeat' (first | refine b9 ?_ | refine b6 ?_ | refine a6 ?_ | refine b5 ?_ | refine e7 rfl ?_ | refine d9 rfl ?_ | ((first | refine b8 (fun K hK => ?_) | refine d3 e9 (fun K hK => ?_) | refine b7 (cg ht [0,1,3] ?_) | refine a8 (dg ht [0,1,3] ?_) | fail); simp -implicitDefEqProofs [c10]) | refine hK _ ?_ | refine hK _ _ (by rfl) ?_ | fail)
    refine d6 (j0 [0, 1, 2, 3] ?_); simp -implicitDefEqProofs [m9, f6, f7, c10] <;> try rfl
  rw [if_neg c10]
  by_cases c11 : x.k = 11
  · rw [if_pos c11]
    have hl1 : p.length = 1 := by rw [hlp] at hsh; unfold j7 at hsh; simp [c11] at hsh; exact hsh.1
    obtain ⟨⟨ax, al⟩, rfl⟩ := o6 hl1
    have ht := c2w m L E x l (.mk ax al)
    rw [show [Tr.mk ax al].getD 0 z0T = .mk ax al from rfl]
    obtain ⟨q, hu⟩ : ∃ t, oneB x.n (.mk ax al) = t := ⟨_, rfl⟩
    rw [hu] at ht ⊢
    clear hu n15 n16 hp
    obtain ⟨mx, ml⟩ := m
    refine d7 Tryz.func84 rfl rfl (Nat.le_of_ble_eq_true rfl) ?_
    repeat' (first | refine b9 ?_ | refine b6 ?_ | refine a6 ?_ | refine b5 ?_ | refine e7 rfl ?_ | refine d9 rfl ?_ | ((first | refine b8 (fun K hK => ?_) | refine d3 e9 (fun K hK => ?_) | refine b7 (cg ht [0,1,3] ?_) | refine a8 (dg ht [0,1,3] ?_) | fail); simp -implicitDefEqProofs [c11]) | refine hK _ ?_ | refine hK _ _ (by rfl) ?_ | fail)
    refine d6 (j0 [0, 1, 2, 3] ?_); simp -implicitDefEqProofs [m9, f6, f7, c11] <;> try rfl
  rw [if_neg c11]
  by_cases c12 : x.k = 12
  · rw [if_pos c12]
    have hl2 : p.length = 2 := by rw [hlp] at hsh; unfold j7 at hsh; simp [c12] at hsh; exact hsh
    obtain ⟨⟨ax, al⟩, ⟨bx, bl⟩, rfl⟩ := a9z hl2
    have ht := b5s m L E (.mk ax al) (.mk bx bl)
    rw [show [Tr.mk ax al, .mk bx bl].getD 0 z0T = .mk ax al from rfl, show [Tr.mk ax al, .mk bx bl].getD 1 z0T = .mk bx bl from rfl]
    obtain ⟨⟨ux, ul⟩, hu⟩ : ∃ t, (b0d (.mk ax al) (.mk bx bl)).getD z0T = t := ⟨_, rfl⟩
    obtain ⟨q, hq⟩ : ∃ t, (b0d (.mk ax al) (.mk bx bl)).isSome = t := ⟨_, rfl⟩
    rw [hu, hq] at ht ⊢
    clear hu hq n15 n16 hp
    obtain ⟨mx, ml⟩ := m
    refine d7 Tryz.func84 rfl rfl (Nat.le_of_ble_eq_true rfl) ?_
    repeat' (first | refine b9 ?_ | refine b6 ?_ | refine a6 ?_ | refine b5 ?_ | refine e7 rfl ?_ | refine d9 rfl ?_ | ((first | refine b8 (fun K hK => ?_) | refine d3 e9 (fun K hK => ?_) | refine b7 (cg ht [0,1,3] ?_) | refine a8 (dg ht [0,1,3] ?_) | fail); simp -implicitDefEqProofs [c12]) | refine hK _ ?_ | refine hK _ _ (by rfl) ?_ | fail)
    refine d6 (j0 [0, 1, 2, 3] ?_); simp -implicitDefEqProofs [m9, f6, f7, c12] <;> try rfl
  rw [if_neg c12]
  by_cases c13 : x.k = 13
  · rw [if_pos c13]
    have hl1 : p.length = 1 := by rw [hlp] at hsh; unfold j7 at hsh; simp [c13] at hsh; exact hsh
    obtain ⟨⟨ax, al⟩, rfl⟩ := o6 hl1
    have ht := b5q m hms L E x l hx (.mk ax al) (hp (.mk ax al) (by simp)).1 F
    rw [show [Tr.mk ax al].getD 0 z0T = .mk ax al from rfl]
    obtain ⟨⟨⟨ux, ul⟩, q, n, er⟩, hu⟩ : ∃ t, b7k m x (.mk ax al) = t := ⟨_, rfl⟩
    rw [hu] at ht ⊢
    dsimp only at ht ⊢
    obtain ⟨at', hat⟩ : ∃ t, (if er = 0 then 0 else x.f) = t := ⟨_, rfl⟩
    rw [hat] at ht ⊢
    clear hu hat n15 n16 hp
    obtain ⟨mx, ml⟩ := m
    refine d7 Tryz.func84 rfl rfl (Nat.le_of_ble_eq_true rfl) ?_
    repeat' (first | refine b9 ?_ | refine b6 ?_ | refine a6 ?_ | refine b5 ?_ | refine e7 rfl ?_ | refine d9 rfl ?_ | ((first | refine b8 (fun K hK => ?_) | refine d3 e9 (fun K hK => ?_) | refine b7 (cg ht [0,1,2,3] ?_) | refine a8 (dg ht [0,1,2,3] ?_) | fail); simp -implicitDefEqProofs [c13]) | refine hK _ ?_ | refine hK _ _ (by rfl) ?_ | fail)
    refine d6 (j0 [0, 1, 2, 3] ?_); simp -implicitDefEqProofs [m9, f6, f7, c13] <;> try rfl
  rw [if_neg c13]
  by_cases c14 : x.k = 14
  · rw [if_pos c14]
    have hl1 : 0 < p.length := by rw [hlp] at hsh; unfold j7 at hsh; simp [c14] at hsh; omega
    have ht := b93 m hm (by omega) L E x l p hlp hl1 hp hpl
    obtain ⟨⟨⟨ux, ul⟩, q, n, er⟩, hu⟩ : ∃ t, b51 m x p = t := ⟨_, rfl⟩
    have hnn : n = x.n := by
      have : (b51 m x p).n = x.n := by
        unfold b51
        split
        · split <;> rfl
        · rfl
      rw [hu] at this; exact this
    rw [hu] at ht ⊢
    dsimp only at ht ⊢
    subst hnn
    obtain ⟨at', hat⟩ : ∃ t, (if er = 0 then 0 else x.f) = t := ⟨_, rfl⟩
    rw [hat] at ht ⊢
    clear hu hat n15 n16 hp
    obtain ⟨mx, ml⟩ := m
    refine d7 Tryz.func84 rfl rfl (Nat.le_of_ble_eq_true rfl) ?_
    repeat' (first | refine b9 ?_ | refine b6 ?_ | refine a6 ?_ | refine b5 ?_ | refine e7 rfl ?_ | refine d9 rfl ?_ | ((first | refine b8 (fun K hK => ?_) | refine d3 e9 (fun K hK => ?_) | refine b7 (cg ht [0,1,3] ?_) | refine a8 (dg ht [0,1,3] ?_) | fail); simp -implicitDefEqProofs [c14]) | refine hK _ ?_ | refine hK _ _ (by rfl) ?_ | fail)
    refine d6 (j0 [0, 1, 2, 3] ?_); simp -implicitDefEqProofs [m9, f6, f7, c14] <;> try rfl
  rw [if_neg c14]
  by_cases c15 : x.k = 15
  · rw [if_pos c15]
    obtain ⟨g0, ⟨dx, dl⟩, hd⟩ := n15 c15
    obtain ⟨n, hn⟩ : ∃ n : Nat, x.n = n := ⟨x.n.toNat, by omega⟩
    rw [hn, Int.toNat_natCast] at hd ⊢
    have hnl := (List.getElem?_eq_some_iff.1 hd).1
    have hd' := (List.getElem?_eq_some_iff.1 hd).2
    have s1 := j8 (List.mem_of_getElem? hd)
    rw [show m.kids.getD n z0T = .mk dx dl by simp [List.getD, hd], Tr.kids]
    have hfit := a94 m L E dl p (fun d h => by have := v8 (x := dx) h; omega) (fun a h => by have := (hp a h).2; omega) (by have := Tr.len_size (x := dx) (l := dl); omega) (by omega)
    have w0 : IntKind.i64.wrap ((n : Nat) : Int) = (n : Nat) := l4 _ (by omega) (by omega)
    obtain ⟨q, hq⟩ : ∃ t, b2l dl p = t := ⟨_, rfl⟩
    rw [hq] at hfit ⊢
    clear hq n15 n16 hp
    obtain ⟨mx, ml⟩ := m
    simp only [Tr.kids] at hnl hd hd'
    refine d7 Tryz.func84 rfl rfl (Nat.le_of_ble_eq_true rfl) ?_
    repeat' (first | refine b9 ?_ | refine b6 ?_ | refine a6 ?_ | refine b5 ?_ | refine e7 rfl ?_ | refine d9 rfl ?_ | ((first | refine b8 (fun K hK => ?_) | refine d3 e9 (fun K hK => ?_) | refine b7 (cg hfit [0,1,3] ?_) | refine a8 (dg hfit [0,1,3] ?_) | fail); simp -implicitDefEqProofs [c15, hn, hnl, hd, hd', w0, hlp]) | refine hK _ ?_ | refine hK _ _ (by rfl) ?_ | fail)
    refine d6 (j0 [0, 1, 2, 3] ?_); simp -implicitDefEqProofs [m9, f6, f7, c15, hn] <;> try rfl
  rw [if_neg c15]
  by_cases c16 : x.k = 16
  · rw [if_pos c16]
    obtain ⟨g0, dx, ⟨ax, al⟩, ⟨bx, bl⟩, ⟨cx, cl⟩, hd⟩ := n16 c16
    obtain ⟨n, hn⟩ : ∃ n : Nat, x.n = n := ⟨x.n.toNat, by omega⟩
    rw [hn, Int.toNat_natCast] at hd ⊢
    have hnl := (List.getElem?_eq_some_iff.1 hd).1
    have hd' := (List.getElem?_eq_some_iff.1 hd).2
    have s1 := j8 (List.mem_of_getElem? hd)
    have has := Tr.size_at (x := dx) (l := [Tr.mk ax al, .mk bx bl, .mk cx cl]) (i := 0) rfl
    have hbs := Tr.size_at (x := dx) (l := [Tr.mk ax al, .mk bx bl, .mk cx cl]) (i := 1) rfl
    rw [show m.kids.getD n z0T = .mk dx [.mk ax al, .mk bx bl, .mk cx cl] by simp [List.getD, hd], Tr.kids]
    rw [show [Tr.mk ax al, .mk bx bl, .mk cx cl].getD 0 z0T = .mk ax al from rfl, show [Tr.mk ax al, .mk bx bl, .mk cx cl].getD 1 z0T = .mk bx bl from rfl, Tr.kids]
    have hfit := a94 m L E al p (fun d h => by have := v8 (x := ax) h; omega) (fun a h => by have := (hp a h).2; omega) (by have := Tr.len_size (x := ax) (l := al); omega) (by omega)
    have hb := a14 (.mk bx bl) (by omega)
    have w0 : IntKind.i64.wrap ((n : Nat) : Int) = (n : Nat) := l4 _ (by omega) (by omega)
    obtain ⟨q, hq⟩ : ∃ t, b2l al p = t := ⟨_, rfl⟩
    obtain ⟨⟨ux, ul⟩, hu⟩ : ∃ t, u9 (.mk bx bl) = t := ⟨_, rfl⟩
    rw [hq] at hfit ⊢
    rw [hu] at hb ⊢
    clear hq hu n15 n16 hp
    obtain ⟨mx, ml⟩ := m
    simp only [Tr.kids] at hnl hd hd'
    refine d7 Tryz.func84 rfl rfl (Nat.le_of_ble_eq_true rfl) ?_
    repeat' (first | refine b9 ?_ | refine b6 ?_ | refine a6 ?_ | refine b5 ?_ | refine e7 rfl ?_ | refine d9 rfl ?_ | ((first | refine b8 (fun K hK => ?_) | refine d3 e9 (fun K hK => ?_) | refine b7 (cg hfit [0,1,3] ?_) | refine a8 (dg hfit [0,1,3] ?_) | refine b7 (cp hb ?_) | refine a8 (dp hb ?_) | fail); simp -implicitDefEqProofs [c16, hn, hnl, hd, hd', w0, hlp]) | refine hK _ ?_ | refine hK _ _ (by rfl) ?_ | fail)
    refine d6 (j0 [0, 1, 2, 3] ?_); simp -implicitDefEqProofs [m9, f6, f7, c16, hn] <;> try rfl
  rw [if_neg c16]
  clear n15 n16 hp
  by_cases c18 : x.k = 18
  · rw [if_pos c18]
    unfold tyT
    obtain ⟨mx, ml⟩ := m
    refine d7 Tryz.func84 rfl rfl (Nat.le_of_ble_eq_true rfl) ?_
    repeat (first | refine b9 ?_ | refine b6 ?_ | refine a6 ?_ | refine b5 ?_ | refine e7 rfl ?_ | refine d9 rfl ?_ | ((first | refine b8 (fun K hK => ?_) | refine d3 e9 (fun K hK => ?_) | fail); simp -implicitDefEqProofs [c18]; first | refine hK _ ?_ | refine hK _ _ (by rfl) ?_ | fail) | fail)
    refine d6 (j0 [0, 1, 2, 3] ?_); simp -implicitDefEqProofs [m9, f6, f7, c18] <;> try rfl
  rw [if_neg c18]
  have hl := a7l x l
  have hle : a0u (.mk x l) = a0u (.mk x []) := rfl
  rw [hle] at hl
  obtain ⟨⟨bx, bl⟩, hbb⟩ : ∃ b, a0u (.mk x []) = b := ⟨_, rfl⟩
  rw [hbb] at hl ⊢
  clear hbb hle
  obtain ⟨mx, ml⟩ := m
  refine d7 Tryz.func84 rfl rfl (Nat.le_of_ble_eq_true rfl) ?_
  repeat' (first | refine b9 ?_ | refine b6 ?_ | refine a6 ?_ | refine b5 ?_ | refine e7 rfl ?_ | refine d9 rfl ?_ | ((first | refine b8 (fun K hK => ?_) | refine d3 e9 (fun K hK => ?_) | refine b7 (cp hl ?_) | refine a8 (dp hl ?_) | fail); simp -implicitDefEqProofs [c7, c8, c9, c10, c11, c12, c13, c14, c15, c16, c18]) | refine hK _ ?_ | refine hK _ _ (by rfl) ?_ | fail)
  refine d6 (j0 [0, 1, 2, 3] ?_); simp -implicitDefEqProofs [m9, f6, f7] <;> try rfl
end Go.Proofs.YtbbkmijkllgfaaaGreatDoor.am
end
