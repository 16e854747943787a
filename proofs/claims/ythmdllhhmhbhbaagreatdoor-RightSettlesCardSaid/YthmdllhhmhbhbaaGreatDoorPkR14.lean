import Derived.Test.YthmdllhhmhbhbaaGreatDoorPkR4
import Derived.ChangeOld
import Derived.OpenShut
import Derived.Below
import Derived.Test.YthmdllhhmhbhbaaGreatDoorPkR3
import Derived.Test.YthmdllhhmhbhbaaGreatDoorPkR2
import Derived.Test.YthmdllhhmhbhbaaGreatDoorPkR13
import Derived.Test.YthmdllhhmhbhbaaGreatDoorPkR8
set_option maxRecDepth 100000
set_option maxHeartbeats 4000000
section
namespace Go.Proofs.YthmdllhhmhbhbaaGreatDoor.am
open Go.ChangeShapes Go.WideShapes Go.ChangeAt Go.RowKit
open vt
set_option linter.unusedVariables false
set_option linter.unusedSimpArgs false
theorem c0p {l : List VT} {lv n : Int} : ∀ k, k ≤ l.length → a3l l lv n k ≤ n ∧ (0 ≤ a3l l lv n k → a3l l lv n k + k ≤ n) := fun k => by
  induction k with
  | zero => intro _; rw [a00]; omega
  | succ k ih =>
    intro hk
    obtain ⟨i1, i2⟩ := ih (by omega)
    have hy : l[k]? = some (l[k]'(by omega)) := List.getElem?_eq_getElem _
    rw [a2x hy]
    split
    · rename_i hc
      have h1 := b2q (l[k]'(by omega)) (a3l l lv n k) (lv - 1) (by omega)
      have h2 := Tr.size_pos (l[k]'(by omega))
      have h3 := i2 hc
      refine ⟨by omega, fun h => ?_⟩
      have := h1.2.2 h
      omega
    · rename_i hc; exact ⟨i1, fun h => absurd h hc⟩
theorem c1g (t : VT) : ∀ left lv : Int, 0 ≤ left → left ≤ 1000000 → lv ≤ 1000 → -1000000 ≤ lv → Row Tryz.prog 15 [vT t, vI left, vI lv] [] (vI (b5t t left lv)) [] := by
  induction t using Tr.ind with
  | h x l ih =>
  intro left lv h0 h1 h2 h3
  have hlen := Tr.len_size (x := x) (l := l)
  rw [c2k]
  refine e8 Tryz.func15 rfl rfl (Nat.le_of_ble_eq_true rfl) ?_
  by_cases hl : lv ≤ 0
  · rw [if_pos hl]
    repeat (first | refine d7 ?_ | refine b9 ?_ | refine a8 ?_ | refine b8 ?_ | refine d9 rfl (fun _ => ?_) (fun hb => absurd hb (by decide)) | refine d9 rfl (fun hb => absurd hb (by decide)) (fun _ => ?_) | (refine d6 (fun K hK => ?_); simp -implicitDefEqProofs [hl]; refine hK _ ?_) | (refine d8 f8 (fun K hK => ?_); simp -implicitDefEqProofs [hl]; refine hK _ _ (by rfl) ?_) | fail)
    refine e7 (e9 ?_); simp -implicitDefEqProofs [j9, g7, g9] <;> try rfl
  rw [if_neg hl]
  have w1 : IntKind.i64.wrap (left - 1) = left - 1 := v6 _ (by omega) (by omega)
  have w3 : IntKind.i64.wrap (lv - 1) = lv - 1 := v6 _ (by omega) (by omega)
  repeat (first | refine d7 ?_ | refine b9 ?_ | refine a8 ?_ | refine b8 ?_ | refine d9 rfl (fun _ => ?_) (fun hb => absurd hb (by decide)) | refine d9 rfl (fun hb => absurd hb (by decide)) (fun _ => ?_) | (refine d6 (fun K hK => ?_); simp -implicitDefEqProofs [hl, w1]; refine hK _ ?_) | (refine d8 f8 (fun K hK => ?_); simp -implicitDefEqProofs [hl, w1]; refine hK _ _ (by rfl) ?_) | fail)
  refine v7 (ι := Nat) (fun k => a0w [(1, vI (a3l l lv (left - 1) k)), (2, vI lv), (3, .v (.c (.ptr 0 0))), (7, vI (k : Nat))] [some (.box (ta (.mk x l)))]) (fun k => k ≤ l.length ∧ -2 ≤ a3l l lv (left - 1) k ∧ a3l l lv (left - 1) k ≤ left) (fun k => l.length - k) 0 ⟨Nat.zero_le _, by rw [a00]; omega, by rw [a00]; omega⟩ (i6 [0] (by simp -implicitDefEqProofs [a00]) (by simp -implicitDefEqProofs [a00]) (by decide) rfl (by simp)) (fun Z hI k hkz => ?_)
  obtain ⟨hk, hc1, hc2⟩ := hkz
  by_cases hkl : k < l.length; rotate_left
  · have : k = l.length := by omega
    subst this
    repeat (first | refine d7 ?_ | refine b9 ?_ | refine a8 ?_ | refine b8 ?_ | refine d9 rfl (fun _ => ?_) (fun hb => absurd hb (by decide)) | refine d9 rfl (fun hb => absurd hb (by decide)) (fun _ => ?_) | (refine d6 (fun K hK => ?_); simp -implicitDefEqProofs; refine hK _ ?_) | (refine d8 f8 (fun K hK => ?_); simp -implicitDefEqProofs; refine hK _ _ (by rfl) ?_) | fail)
    refine e7 (e9 ?_); simp -implicitDefEqProofs [j9, g7, g9] <;> try rfl
  by_cases hc : 0 ≤ a3l l lv (left - 1) k; rotate_left
  · have := c0q (l := l) (lv := lv) (n := left - 1) (k := k) (by omega) l.length hk (Nat.le_refl _)
    rw [this]
    repeat (first | refine d7 ?_ | refine b9 ?_ | refine a8 ?_ | refine b8 ?_ | refine d9 rfl (fun _ => ?_) (fun hb => absurd hb (by decide)) | refine d9 rfl (fun hb => absurd hb (by decide)) (fun _ => ?_) | (refine d6 (fun K hK => ?_); simp -implicitDefEqProofs [hkl, hc]; refine hK _ ?_) | (refine d8 f8 (fun K hK => ?_); simp -implicitDefEqProofs [hkl, hc]; refine hK _ _ (by rfl) ?_) | fail)
    refine e7 (e9 ?_); simp -implicitDefEqProofs [j9, g7, g9] <;> try rfl
  obtain ⟨⟨ax, al⟩, ha⟩ : ∃ a, l[k]? = some a := ⟨_, List.getElem?_eq_getElem hkl⟩
  have ha' := (List.getElem?_eq_some_iff.1 ha).2
  have hsz1 := Tr.size_at (x := x) ha
  have hcs := a2x (lv := lv) (n := left - 1) ha
  have hkn := (c0p (l := l) (lv := lv) (n := left - 1) k hk).2 hc
  have w2 : IntKind.i64.wrap ((k : Nat) + 1 : Int) = (k : Nat) + 1 := v6 _ (by omega) (by omega)
  rw [if_pos hc] at hcs
  have hle := b2q (.mk ax al) (a3l l lv (left - 1) k) (lv - 1) (by omega)
  repeat (first | refine d7 ?_ | refine b9 ?_ | refine a8 ?_ | refine b8 ?_ | refine d9 rfl (fun _ => ?_) (fun hb => absurd hb (by decide)) | refine d9 rfl (fun hb => absurd hb (by decide)) (fun _ => ?_) | (refine d6 (fun K hK => ?_); simp -implicitDefEqProofs [hkl, hc]; refine hK _ ?_) | (refine d8 f8 (fun K hK => ?_); simp -implicitDefEqProofs [hkl, hc]; refine hK _ _ (by rfl) ?_) | fail)
  refine d6 (fun K hK => ?_); simp -implicitDefEqProofs [hkl, ha, ha', w3]
  refine b7 (a1l (ih _ (List.mem_of_getElem? ha) (a3l l lv (left - 1) k) (lv - 1) (by omega) (by omega) (by omega) (by omega)) (by simp) (fun _ => rfl) rfl ?_)
  simp -implicitDefEqProofs; refine hK _ ?_
  repeat (first | refine d7 ?_ | refine b9 ?_ | refine a8 ?_ | refine b8 ?_ | refine d9 rfl (fun _ => ?_) (fun hb => absurd hb (by decide)) | refine d9 rfl (fun hb => absurd hb (by decide)) (fun _ => ?_) | (refine d6 (fun K hK => ?_); simp -implicitDefEqProofs [w2]; refine hK _ ?_) | (refine d8 f8 (fun K hK => ?_); simp -implicitDefEqProofs [w2]; refine hK _ _ (by rfl) ?_) | fail)
  refine ⟨k + 1, ⟨by omega, by rw [hcs]; omega, by rw [hcs]; omega⟩, (by dsimp only; omega), ?_⟩
  rw [hI]; exact i6 [0] (by simp -implicitDefEqProofs [hcs]) (by simp -implicitDefEqProofs [hcs]) (by decide) rfl (by simp)
theorem c1h (t : VT) : t.size ≤ 1000000 → Row Tryz.prog 16 [vT t] [] (vB (nmd t)) [] := by
  induction t using Tr.ind with
  | h x l ih =>
  intro hsz
  have hlen := Tr.len_size (x := x) (l := l)
  rw [nmd_mk]
  refine e8 Tryz.func16 rfl rfl (Nat.le_of_ble_eq_true rfl) ?_
  by_cases hs : 40 < x.s.size
  · have hs' : (40 : Int) < (x.s.size : Nat) := by omega
    repeat (first | refine d7 ?_ | refine b9 ?_ | refine a8 ?_ | refine b8 ?_ | refine d9 rfl (fun _ => ?_) (fun hb => absurd hb (by decide)) | refine d9 rfl (fun hb => absurd hb (by decide)) (fun _ => ?_) | (refine d6 (fun K hK => ?_); simp -implicitDefEqProofs [hs, hs']; refine hK _ ?_) | (refine d8 f8 (fun K hK => ?_); simp -implicitDefEqProofs [hs, hs']; refine hK _ _ (by rfl) ?_) | fail)
    refine e7 (e9 ?_); simp -implicitDefEqProofs [j9, g7, g9, hs] <;> try rfl
  have hs' : ¬ (40 : Int) < (x.s.size : Nat) := by omega
  repeat (first | refine d7 ?_ | refine b9 ?_ | refine a8 ?_ | refine b8 ?_ | refine d9 rfl (fun _ => ?_) (fun hb => absurd hb (by decide)) | refine d9 rfl (fun hb => absurd hb (by decide)) (fun _ => ?_) | (refine d6 (fun K hK => ?_); simp -implicitDefEqProofs [hs, hs']; refine hK _ ?_) | (refine d8 f8 (fun K hK => ?_); simp -implicitDefEqProofs [hs, hs']; refine hK _ _ (by rfl) ?_) | fail)
  refine v7 (ι := Nat) (fun k => a0w [(1, .v (.c (.ptr 0 0))), (3, vI (k : Nat))] [some (.box (ta (.mk x l)))]) (fun k => k ≤ l.length ∧ c2h nmd l k = false) (fun k => l.length - k) 0 ⟨Nat.zero_le _, b6g _ _⟩ (i6 [0] (by simp -implicitDefEqProofs) (by simp -implicitDefEqProofs) (by decide) rfl (by simp)) (fun Z hI k hkz => ?_)
  obtain ⟨hk, hz⟩ := hkz
  by_cases hkl : k < l.length; rotate_left
  · have : k = l.length := by omega
    subst this
    rw [c0j] at hz
    repeat (first | refine d7 ?_ | refine b9 ?_ | refine a8 ?_ | refine b8 ?_ | refine d9 rfl (fun _ => ?_) (fun hb => absurd hb (by decide)) | refine d9 rfl (fun hb => absurd hb (by decide)) (fun _ => ?_) | (refine d6 (fun K hK => ?_); simp -implicitDefEqProofs; refine hK _ ?_) | (refine d8 f8 (fun K hK => ?_); simp -implicitDefEqProofs; refine hK _ _ (by rfl) ?_) | fail)
    refine e7 (e9 ?_); simp -implicitDefEqProofs [j9, g7, g9, hs, hz] <;> try rfl
  obtain ⟨⟨ax, al⟩, ha⟩ : ∃ a, l[k]? = some a := ⟨_, List.getElem?_eq_getElem hkl⟩
  have ha' := (List.getElem?_eq_some_iff.1 ha).2
  have hsz1 := Tr.size_at (x := x) ha
  have w2 : IntKind.i64.wrap ((k : Nat) + 1 : Int) = (k : Nat) + 1 := v6 _ (by omega) (by omega)
  have hcs := b6f (f := nmd) ha
  repeat (first | refine d7 ?_ | refine b9 ?_ | refine a8 ?_ | refine b8 ?_ | refine d9 rfl (fun _ => ?_) (fun hb => absurd hb (by decide)) | refine d9 rfl (fun hb => absurd hb (by decide)) (fun _ => ?_) | (refine d6 (fun K hK => ?_); simp -implicitDefEqProofs [hkl]; refine hK _ ?_) | (refine d8 f8 (fun K hK => ?_); simp -implicitDefEqProofs [hkl]; refine hK _ _ (by rfl) ?_) | fail)
  refine d6 (fun K hK => ?_); simp -implicitDefEqProofs [hkl, ha, ha']
  refine b7 (a1l (ih _ (List.mem_of_getElem? ha) (by omega)) (by simp) (fun _ => rfl) rfl ?_)
  simp -implicitDefEqProofs; refine hK _ ?_
  refine d9 rfl (fun hb => ?_) (fun hb => ?_)
  · have := any_of ha hb
    repeat (first | refine d7 ?_ | refine b9 ?_ | refine a8 ?_ | refine b8 ?_ | refine d9 rfl (fun _ => ?_) (fun hb => absurd hb (by decide)) | refine d9 rfl (fun hb => absurd hb (by decide)) (fun _ => ?_) | (refine d6 (fun K hK => ?_); simp -implicitDefEqProofs; refine hK _ ?_) | (refine d8 f8 (fun K hK => ?_); simp -implicitDefEqProofs; refine hK _ _ (by rfl) ?_) | fail)
    refine e7 (e9 ?_); simp -implicitDefEqProofs [j9, g7, g9, this] <;> try rfl
  · repeat (first | refine d7 ?_ | refine b9 ?_ | refine a8 ?_ | refine b8 ?_ | refine d9 rfl (fun _ => ?_) (fun hb => absurd hb (by decide)) | refine d9 rfl (fun hb => absurd hb (by decide)) (fun _ => ?_) | (refine d6 (fun K hK => ?_); simp -implicitDefEqProofs [w2]; refine hK _ ?_) | (refine d8 f8 (fun K hK => ?_); simp -implicitDefEqProofs [w2]; refine hK _ _ (by rfl) ?_) | fail)
    refine ⟨k + 1, ⟨by omega, by rw [hcs, hz, hb]; rfl⟩, (by dsimp only; omega), ?_⟩
    rw [hI]; exact i6 [0] (by simp -implicitDefEqProofs) (by simp -implicitDefEqProofs) (by decide) rfl (by simp)
theorem b5c (t : VT) : Row Tryz.prog 5 [vT t] [] (vB (b4w t)) [] := by
  refine e8 Tryz.func5 rfl rfl (Nat.le_of_ble_eq_true rfl) ?_
  obtain ⟨x, l⟩ := t
  repeat (first | refine d7 ?_ | refine b9 ?_ | refine a8 ?_ | refine b8 ?_ | refine d9 rfl (fun _ => ?_) (fun hb => absurd hb (by decide)) | refine d9 rfl (fun hb => absurd hb (by decide)) (fun _ => ?_) | (refine d6 (fun K hK => ?_); simp -implicitDefEqProofs; refine hK _ ?_) | (refine d8 f8 (fun K hK => ?_); simp -implicitDefEqProofs; refine hK _ _ (by rfl) ?_) | fail)
  refine d6 (fun K hK => ?_); simp -implicitDefEqProofs
  refine b7 (a1l (c1g (.mk x l) 400 70 (by omega) (by omega) (by omega) (by omega)) (by simp) (fun _ => rfl) rfl ?_)
  by_cases hc : b5t (.mk x l) 400 70 < 0
  · simp -implicitDefEqProofs [hc]; refine hK _ ?_
    refine e7 (e9 ?_); simp -implicitDefEqProofs [j9, g7, g9, b4w, hc] <;> try rfl
  · simp -implicitDefEqProofs [hc]
    refine b7 (a1l (c1h (.mk x l) (by have := (b2q (.mk x l) 400 70 (by omega)).2.2 (by omega); omega)) (by simp) (fun _ => rfl) rfl ?_)
    simp -implicitDefEqProofs; refine hK _ ?_
    refine e7 (e9 ?_); simp -implicitDefEqProofs [j9, g7, g9, b4w, hc] <;> try rfl
end Go.Proofs.YthmdllhhmhbhbaaGreatDoor.am
end
section
namespace Go.Proofs.YthmdllhhmhbhbaaGreatDoor.am
open Go.ChangeShapes Go.WideShapes Go.ChangeAt Go.RowKit
set_option linter.unusedVariables false
set_option linter.unusedSimpArgs false
def b43 (w : World) : CS := fun b _ => b < w.heap.size
def Ty (P : Program) : Nat → TypeId → List PV → Prop
  | 0, _, _ => False
  | n + 1, t, ps =>
    match P.underlying t with
    | some .bool => ∃ b, ps = [.lit (.bool b)]
    | some (.int k) => ∃ z, ps = [.lit (.int k z)] ∧ (Lit.int k z).wf = true
    | some .string => ∃ s : ByteArray, ps = [.lit (.string s)] ∧ s.size ≤ maxLen
    | some (.slice e) => ∃ l : List (List PV), ps = [.sl (P.cellsOf e) l] ∧ l.length ≤ maxLen ∧ ∀ x ∈ l, Ty P n e x
    | some (.struct fs) => ps.length = P.cellsOf t ∧ ∀ f ∈ fs.toList, Ty P n f.type ((ps.drop f.offset).take (P.cellsOf f.type))
    | _ => False
def a34 (P : Program) : Nat → List Field → Nat → Bool
  | off, [], tot => decide (off = tot)
  | off, f :: fs, tot => decide (f.offset = off) && a34 P (off + P.cellsOf f.type) fs tot
def okTy (P : Program) (cl : List TypeId) (t : TypeId) : Bool :=
  match P.underlying t with
  | some .bool => true
  | some (.int _) => true
  | some .string => true
  | some (.slice e) => cl.contains e && decide (0 < P.cellsOf e)
  | some (.struct fs) => (fs.toList.all fun f => cl.contains f.type) && a34 P 0 fs.toList (P.cellsOf t)
  | _ => false
section
variable {P : Program} {S : CS} {w : World}
theorem m8.take {vs : List Value} {l : List PV} (h : m8 S w vs l) (n : Nat) : m8 S w (vs.take n) (l.take n) := by
  have := (m8.cs (γ := fun _ => .un)).1 h
  refine (m8.cs (γ := fun _ => .un)).2 ?_
  rw [List.map_take]; exact o9.take this n
theorem a6p {n : Nat} {cs : List Value} : ∀ (fs : List Field) (off tot : Nat) (ps0 : List PV), m8 S w (cs.take off) ps0 → ps0.length = off → off ≤ cs.length → a34 P off fs tot = true → tot = cs.length →
    (∀ f ∈ fs, ∃ q, m8 S w ((cs.drop f.offset).take (P.cellsOf f.type)) q ∧ Ty P n f.type q) →
    ∃ ps, m8 S w cs ps ∧ ps.take off = ps0 ∧ ∀ f ∈ fs, off ≤ f.offset ∧ Ty P n f.type ((ps.drop f.offset).take (P.cellsOf f.type))
  | [], off, tot, ps0, h0, hl, hle, hc, ht, _ => by
    have : off = tot := by simpa [a34] using hc
    subst this
    subst ht
    rw [List.take_length] at h0
    exact ⟨ps0, h0, by rw [← hl, List.take_length], fun f hf => by simp at hf⟩
  | f :: fs, off, tot, ps0, h0, hl, hle, hc, ht, hf => by
    unfold a34 at hc
    rw [Bool.and_eq_true] at hc
    have hoff : f.offset = off := of_decide_eq_true hc.1
    obtain ⟨q, hq, hty⟩ := hf f (by simp)
    rw [hoff] at hq
    obtain ⟨sz, hsz⟩ : ∃ sz, P.cellsOf f.type = sz := ⟨_, rfl⟩
    rw [hsz] at hq hc
    have hend : off + sz ≤ cs.length := by
      have key : ∀ (fs : List Field) (o : Nat), a34 P o fs tot = true → o ≤ tot := fun fs => by
        induction fs with
        | nil => intro o h; have : o = tot := by simpa [a34] using h
                 omega
        | cons g gs ih => intro o h; unfold a34 at h; rw [Bool.and_eq_true] at h; have := ih _ h.2; omega
      have := key fs _ hc.2
      omega
    have hql : q.length = sz := by rw [← hq.1, List.length_take, List.length_drop]; omega
    have h1 : m8 S w (cs.take (off + sz)) (ps0 ++ q) := by
      rw [List.take_add]; exact h0.append hq
    obtain ⟨ps, k1, k2, k3⟩ := a6p fs (off + sz) tot (ps0 ++ q) h1 (by rw [List.length_append, hl, hql]) hend hc.2 ht (fun g hg => hf g (by simp [hg]))
    refine ⟨ps, k1, ?_, fun g hg => ?_⟩
    · have : (ps.take (off + sz)).take off = (ps0 ++ q).take off := by rw [k2]
      rw [List.take_take, Nat.min_eq_left (by omega)] at this
      rw [this, ← hl, List.take_left']; rfl
    · rcases List.mem_cons.1 hg with rfl | hg
      · refine ⟨by omega, ?_⟩
        rw [hoff, hsz]
        have : (ps.take (off + sz)).drop off = (ps0 ++ q).drop off := by rw [k2]
        rw [List.drop_take, Nat.add_sub_cancel_left] at this
        rw [this, ← hl, List.drop_left']; · exact hty
        rfl
      · have := k3 g hg; exact ⟨by omega, this.2⟩
theorem c1w {H : Type} {enc : TypeId × Value → H} {cl : List TypeId} (hcl : cl.all (okTy P cl) = true) : ∀ (n : Nat) (t : TypeId) (cs : List Value) (y : DataW H × List MemPlace), t ∈ cl → DataW.trod enc P w 0 (fun _ => true) true n t cs = some y → ∃ ps, m8 (b43 w) w cs ps ∧ Ty P n t ps := by
  intro n
  induction n with
  | zero => intro t cs y _ h; simp [DataW.trod] at h
  | succ n ih =>
    intro t cs y ht h
    have hok := List.all_eq_true.1 hcl t ht
    have one : ∀ {v : Value} {p : PV}, RepP (b43 w) w v p → m8 (b43 w) w [v] [p] := fun {v p} hp => ⟨rfl, fun i c hc => by
      cases i with
      | zero => simp at hc; subst hc; exact ⟨v, rfl, hp⟩
      | succ i => simp at hc⟩
    unfold okTy at hok
    cases hu : P.underlying t with
    | none => rw [hu] at hok; cases hok
    | some u =>
      rw [hu] at hok
      unfold Ty
      rw [hu]
      cases u with
      | bool =>
        obtain ⟨b, rfl, _⟩ := DataW.trod_bool hu h
        exact ⟨_, one (.lit _ rfl), b, rfl⟩
      | int k =>
        obtain ⟨z, rfl, _, hz⟩ := DataW.trod_int hu h
        exact ⟨_, one (.lit _ rfl), z, rfl, hz⟩
      | string =>
        obtain ⟨s, rfl, _, hs⟩ := DataW.trod_string hu h
        exact ⟨_, one (.lit _ rfl), s, rfl, hs⟩
      | slice e =>
        dsimp only at hok
        rw [Bool.and_eq_true] at hok
        have he : e ∈ cl := by simpa using hok.1
        have hpos : 0 < P.cellsOf e := of_decide_eq_true hok.2
        rcases DataW.trod_slice hu h with ⟨rfl, _⟩ | ⟨x, len, cap, elems, rest, m, hmf, rfl, hd, _, hl, hm, hlen, hele, hsp, _⟩
        · exact ⟨_, one (.emp none 0 (P.cellsOf e) (by omega) (fun _ => rfl)), [], rfl, Nat.zero_le _, fun x hx => by simp at hx⟩
        · have hmn : m = n := by omega
          subst hmn
          rcases Nat.eq_zero_or_pos len with h0 | hn
          · subst h0
            exact ⟨_, one (.emp (some x) cap (P.cellsOf e) (by unfold maxLen at hm; omega) (fun h => by cases h)), [], rfl, Nat.zero_le _, fun x hx => by simp at hx⟩
          · obtain ⟨b, off, spot⟩ := x
            obtain ⟨sz, hsz⟩ : ∃ sz, P.cellsOf e = sz := ⟨_, rfl⟩
            rw [hsz] at hpos hele
            show ∃ ps, m8 (b43 w) w [Value.slice (some ⟨b, off, spot⟩) len cap] ps ∧ ∃ l : List (List PV), ps = [.sl (P.cellsOf e) l] ∧ l.length ≤ maxLen ∧ ∀ x ∈ l, Ty P m e x
            rw [hsz]
            have each : ∀ i, i < len → ∃ cs y, w.cells? 0 ((⟨b, off, spot⟩ : Addr).add (i * sz)) sz = some cs ∧ DataW.trod enc P w 0 (fun _ => true) true m e cs = some y := by
              intro i hi
              have := hele i hi
              have hs : ∃ y, elems[i]? = some y := ⟨elems[i], List.getElem?_eq_getElem (by omega)⟩
              obtain ⟨y, hy⟩ := hs
              rw [hy] at this
              obtain ⟨cs, h1, h2⟩ := Option.bind_eq_some_iff.1 this
              exact ⟨cs, y, h1, h2⟩
            obtain ⟨cs0, y0, k0, _⟩ := each 0 hn
            have c0 := (World.cells?_some k0)
            have hspot : spot = none := by
              have h1 := c0.2.2 0 hpos
              have hlt : (0 : Nat) < cs0.length := by have := c0.2.1; omega
              rw [List.getElem?_eq_getElem hlt] at h1
              simpa [Addr.add] using World.cell?_spot h1
            subst hspot
            have hblk : b < w.heap.size := by
              have := World.cells?_block k0 hpos
              simpa [o7] using this
            obtain ⟨L, hL, hq⟩ := bs.choose_list len (fun i (x : List Value × List PV) => x.1.length = sz ∧ (∀ j, j < sz → w.cell? ⟨b, off + i * sz + j, none⟩ = x.1[j]?) ∧ m8 (b43 w) w x.1 x.2 ∧ Ty P m e x.2) (fun i hi => by
              obtain ⟨cs, y, k1, k2⟩ := each i hi
              have k3 := World.cells?_some k1
              rw [o7] at k3
              obtain ⟨ps, p1, p2⟩ := ih e cs y he k2
              refine ⟨(cs, ps), k3.2.1, fun j hj => ?_, p1, p2⟩
              have := k3.2.2 j hj
              rwa [o7] at this)
            have at' : ∀ i e', (L.map (·.2))[i]? = some e' → ∃ x : List Value × List PV, L[i]? = some x ∧ e' = x.2 := fun i e' h => by
              rw [List.getElem?_map] at h
              obtain ⟨x, h1, h2⟩ := Option.map_eq_some_iff.1 h
              exact ⟨x, h1, h2.symm⟩
            refine ⟨_, one (.sl b off len cap sz (L.map (·.2)) (by rw [List.length_map, hL]) hn hl (by unfold maxLen at hm; omega) (fun e' he' => ?_)
              (fun i j => ((L[i]?).bind (fun x => x.1[j]?)).getD undef) (fun i e' j p h1 h2 => ?_) (fun i e' j p h1 h2 => ?_)), L.map (·.2), rfl, by rw [List.length_map, hL]; omega, fun x hx => ?_⟩
            · obtain ⟨i, hi⟩ := List.mem_iff_getElem?.1 he'
              obtain ⟨x, hx, rfl⟩ := at' i e' hi
              have := hq i x hx
              rw [← this.2.2.1.1, this.1]
            · obtain ⟨x, hx, rfl⟩ := at' i e' h1
              have := hq i x hx
              have hj : j < sz := by have := (List.getElem?_eq_some_iff.1 h2).1; rw [← (hq i x hx).2.2.1.1, (hq i x hx).1] at this; exact this
              refine ⟨hblk, ?_⟩
              rw [this.2.1 j hj, hx]
              obtain ⟨v, hv, _⟩ := this.2.2.1.2 j p h2
              rw [hv]; simp [hv]
            · obtain ⟨x, hx, rfl⟩ := at' i e' h1
              obtain ⟨v, hv, hr⟩ := (hq i x hx).2.2.1.2 j p h2
              rw [hx]; simp [hv]; exact hr
            · obtain ⟨i, hi⟩ := List.mem_iff_getElem?.1 hx
              obtain ⟨z, hz, rfl⟩ := at' i x hi
              exact (hq i z hz).2.2.2
      | struct fs =>
        dsimp only at hok
        rw [Bool.and_eq_true] at hok
        obtain ⟨xs, m, hmf, _, hcl', hxl, hg⟩ := DataW.trod_struct hu h
        have hmn : m = n := by omega
        subst hmn
        obtain ⟨ps, k1, _, k3⟩ := a6p (P := P) (S := b43 w) (w := w) (n := m) (cs := cs) fs.toList 0 (P.cellsOf t) [] ⟨by simp, fun i c h => by simp at h⟩ rfl (Nat.zero_le _) hok.2 hcl'.symm (fun f hf => by
          obtain ⟨i, hi⟩ := List.mem_iff_getElem?.1 hf
          have hi' : fs[i]? = some f := by simpa using hi
          have h1 := hg i f hi'
          have hlt : i < xs.length := by
            have := (Array.getElem?_eq_some_iff.1 hi').1
            omega
          rw [List.getElem?_eq_getElem hlt] at h1
          exact ih f.type _ _ (by have := List.all_eq_true.1 hok.1 f hf; simpa using this) h1)
        exact ⟨ps, k1, by rw [← k1.1, hcl'], fun f hf => (k3 f hf).2⟩
      | _ => cases hok
theorem c1c {H : Type} {enc : TypeId × Value → H} {cl : List TypeId} {t : TypeId} {cs : Array Value} {d : DataW H} {p : List MemPlace} (hcl : cl.all (okTy P cl) = true) (ht : t ∈ cl) (h : DataW.Trod enc P w 0 (fun _ => true) true t (.agg cs) d p) : ∃ n ps, l8 (fun _ => .un) (b43 w) w (.agg cs) (.v (.agg (ps.map .pv))) ∧ Ty P n t ps := by
  obtain ⟨n, h⟩ := h
  obtain ⟨ps, k1, k2⟩ := c1w hcl n t _ _ ht h
  exact ⟨n, ps, ⟨cs, rfl, m8.cs.1 k1⟩, k2⟩
end
end Go.Proofs.YthmdllhhmhbhbaaGreatDoor.am
end
section
namespace Go.Proofs.YthmdllhhmhbhbaaGreatDoor.am
open Go.ChangeShapes Go.WideShapes Go.ChangeAt Go.RowKit
set_option linter.unusedVariables false
abbrev newS (S : CS) (w w' : World) : CS := fun b o => S b o ∨ (w.heap.size ≤ b ∧ b < w'.heap.size)
theorem Mem.below {γ : Nat → G} {S : CS} {w w' : World} {ch : List AO} (hm : Mem ⟨w, S, γ, []⟩ (fun x => ch[x]?) (fun x => ch.length ≤ x) γ S w) (hb : Below w.heap.size w w') :
    Mem ⟨w, S, γ, []⟩ (fun x => ((ch.map some)[x]?).join) (fun x => (ch.map some).length ≤ x) γ (newS S w w') w' := by
  have hj : ∀ x, ((ch.map some)[x]?).join = ch[x]? := fun x => by
    rw [List.getElem?_map]
    cases ch[x]? <;> rfl
  refine ⟨hb.os, hb.tape, hb.output, hb.size, fun b h _ => hb.block b h, fun b o h => ⟨.inl h, hb.cell (p := ⟨b, o, none⟩) (hm.inb b o h)⟩, fun b o h => h.elim .inl (fun h => .inr (.inl h.1)), fun b o h => h.elim (fun h => Nat.lt_of_lt_of_le (hm.inb b o h) hb.size) (fun h => h.2), GOn.refl _,
    fun x hx => hm.un x (by rw [List.length_map] at hx; exact hx), fun x hx => hm.off x (by rw [← hj]; exact hx), fun x o hx => ?_, hm.dist, fun x b h => ⟨Nat.lt_of_lt_of_le (hm.live x b h).1 hb.size, (hm.live x b h).2⟩⟩
  refine a2e.on (hm.obj x o (by rw [← hj]; exact hx)) rfl (GOn.refl _) (fun _ _ h => .inl h) (fun b o h => hb.cell (p := ⟨b, o, none⟩) (hm.inb b o h)) (fun b hbk => ⟨hb.block b (hm.live x b hbk).1, fun o h => h.elim (fun h => h) (fun h => ?_)⟩)
  have := (hm.live x b hbk).1
  exact absurd h.1 (Nat.not_le.2 this)
theorem a3a {P : Program} {f : FuncId} {args : List AV} {ch : List AO} {res : AV}
    (h : ∀ (γ : Nat → G) (S : CS) (w : World) (vs : List Value), Mem ⟨w, S, γ, []⟩ (fun x => ch[x]?) (fun x => ch.length ≤ x) γ S w → y2 γ S w vs args →
      Calls P f vs.toArray w fun e w' => ∃ v, e = .returned v ∧ Below w.heap.size w w' ∧ l8 γ (newS S w w') w' v res) : Spec P f args ch res (ch.map some) := fun γ S w vs hm hv => by
  refine (h γ S w vs hm hv).mono ?_
  rintro e w' ⟨v, h1, h2, h3⟩
  exact ⟨v, γ, newS S w w', h1, hm.below h2, h3⟩
theorem b7t {γ : Nat → G} {S : CS} {w : World} {x : Nat} {L : List (Nat × Array Value)} (h : a2e γ S w x (.lib L)) {g : Nat} {cs : Array Value} (hg : (g, cs) ∈ L) (hne : 0 < cs.size) : ∃ t z, w.heap[g]? = some (.cells cs t z) := by
  have hc := fun o => (h.2 _ hg o).2
  dsimp only at hc
  have h0 := hc 0
  unfold World.cell? at hc h0
  cases hh : w.heap[g]? with
  | none => rw [hh] at h0; rw [Array.getElem?_eq_getElem hne] at h0; cases h0
  | some ob =>
    cases ob with
    | cells c t z =>
      refine ⟨t, z, ?_⟩
      have : c = cs := by
        apply Array.ext_getElem?
        intro i
        have := hc i
        rw [hh] at this
        simpa using this
      rw [this]
    | _ => rw [hh] at h0; rw [Array.getElem?_eq_getElem hne] at h0; cases h0
theorem b1u {P : Program} {γ : Nat → G} {S : CS} {w : World} {x : Nat} {L : List (Nat × Array Value)} (h : a2e γ S w x (.lib L)) {n : String} {g : Nat} (hn : P.globalNamed n = some g) {cs : Array Value} (hg : (g, cs) ∈ L) (hne : 0 < cs.size) : w.var? P n = some cs := by
  obtain ⟨t, z, hb⟩ := b7t h hg hne
  unfold World.var?
  rw [hn]
  show (match w.heap[g]? with | some (.cells cs _ _) => some cs | _ => none) = _
  rw [hb]
theorem b2f {P : Program} {w : World} {n : String} {g : Nat} (hn : P.globalNamed n = some g) {cs : Array Value} (h : w.var? P n = some cs) : ∀ o, g < w.heap.size ∧ w.cell? ⟨g, o, none⟩ = cs[o]? := by
  unfold World.var? at h
  rw [hn] at h
  have h : (match w.heap[g]? with | some (.cells cs _ _) => some cs | _ => none) = some cs := h
  intro o
  cases hh : w.heap[g]? with
  | none => rw [hh] at h; cases h
  | some ob =>
    refine ⟨(Array.getElem?_eq_some_iff.1 hh).1, ?_⟩
    cases ob with
    | cells c t z =>
      rw [hh] at h
      obtain rfl := Option.some.inj h
      unfold World.cell?
      rw [hh]
      rfl
    | _ => rw [hh] at h; cases h
theorem calls_of_lib {P : Program} {w : World} {f : FuncId} {args : List AV} {vs : List Value} {L : List (Nat × Array Value)} (h : Row P f args [.lib L] (.v (.c (.pv (.lit (.bool true))))) [some (.lib L)]) (hL : ∀ p ∈ L, ∀ o, p.1 < w.heap.size ∧ w.cell? ⟨p.1, o, none⟩ = p.2[o]?)
    (hv : y2 (fun _ => .un) (b43 w) w vs args) : Calls P f vs.toArray w fun e w' => e = .returned (.bool true) ∧ Below w.heap.size w w' := by
  have hbk : ∀ x b, (((fun x : Nat => if x = 0 then G.lib else G.un) x).bk = some b) → False := fun x b h => by
    dsimp only at h
    by_cases hx : x = 0
    · rw [if_pos hx] at h; cases h
    · rw [if_neg hx] at h; cases h
  have hm : Mem ⟨w, b43 w, fun x => if x = 0 then .lib else .un, []⟩ (fun x => [AO.lib L][x]?) (fun x => [AO.lib L].length ≤ x) (fun x => if x = 0 then .lib else .un) (b43 w) w := by
    refine ⟨rfl, rfl, rfl, Nat.le_refl _, fun _ _ _ => rfl, fun _ _ h => ⟨h, rfl⟩, fun _ _ h => .inl h, fun _ _ h => h, GOn.refl _, fun x hx => ?_, fun x hx => ?_, fun x o hx => ?_, fun x y _ b h _ => hbk x b h, fun x b h => (hbk x b h).elim⟩
    · have hx : 1 ≤ x := hx
      exact if_neg (by omega)
    · left
      cases x with
      | zero => cases hx
      | succ x => rfl
    · cases x with
      | zero =>
        obtain rfl := Option.some.inj hx
        exact ⟨rfl, fun p hp o => hL p hp o⟩
      | succ x => simp at hx
  have hmono : ∀ (vs : List Value) (args : List AV), y2 (fun _ => .un) (b43 w) w vs args → y2 (fun x => if x = 0 then .lib else .un) (b43 w) w vs args := by
    intro vs
    induction vs with
    | nil => intro args h; cases args with
      | nil => trivial
      | cons _ _ => exact h.elim
    | cons v vs ih => intro args h; cases args with
      | nil => exact h.elim
      | cons a args => exact ⟨l8.mono (fun _ => .inl rfl) (fun _ _ h => h) (fun _ _ _ => rfl) h.1, ih args h.2⟩
  refine (h.spec _ _ w vs hm (hmono vs args hv)).mono ?_
  rintro e w' ⟨v, γ', S', rfl, m, hr⟩
  obtain ⟨rfl, _⟩ := m6 hr
  exact ⟨rfl, m.os, m.tape, m.output, m.size, fun b hb => m.frame b hb (fun x h => hbk x b h)⟩
end Go.Proofs.YthmdllhhmhbhbaaGreatDoor.am
end
section
namespace Go.Proofs.YthmdllhhmhbhbaaGreatDoor.am
open Go.ChangeShapes Go.WideShapes Go.ChangeAt Go.RowKit
open vt
set_option linter.unusedVariables false
set_option linter.unusedSimpArgs false
theorem law_rsettles_row (LL : List (Nat × Array Value)) (haw : Row Tryz.prog 6 [] [.lib LL] (vB true) [some (.lib LL)]) (m : VT) (hm : p6 m) : Row Tryz.prog 3 [vT m] [.lib LL] (vB true) [some (.lib LL)] := by
  have hla := b5c m
  obtain ⟨q, hq⟩ : ∃ q, b4w m = q := ⟨_, rfl⟩
  rw [hq] at hla
  cases q with
  | true =>
    obtain ⟨mx, ml⟩ := m
    refine e8 Tryz.func3 rfl rfl (Nat.le_of_ble_eq_true rfl) ?_
    repeat' (first | refine d7 ?_ | refine b9 ?_ | refine a8 ?_ | refine b8 ?_ | refine f7 rfl ?_ | refine f6 rfl ?_ | ((first | refine d6 (fun K hK => ?_) | refine d8 f8 (fun K hK => ?_) | refine b7 (cp hla ?_) | refine a6 (dp hla ?_) | refine b7 (cb haw 0 ?_) | refine a6 (db haw 0 ?_) | fail); simp -implicitDefEqProofs) | refine hK _ ?_ | refine hK _ _ (by rfl) ?_ | fail)
    refine e7 (i8 ?_); simp -implicitDefEqProofs [x7, g7, g9] <;> try rfl
  | false =>
  have hs := b4x hq
  have hmo := a2i m hm (by omega)
  have hfi := a9y hm (by omega)
  by_cases he : (a3w m).2.2 = 0; rotate_left
  · obtain ⟨⟨⟨sx, sl⟩, b, c⟩, hM⟩ : ∃ s, a3w m = s := ⟨_, rfl⟩
    rw [hM] at hmo he
    dsimp only at he
    obtain ⟨mx, ml⟩ := m
    refine e8 Tryz.func3 rfl rfl (Nat.le_of_ble_eq_true rfl) ?_
    repeat' (first | refine d7 ?_ | refine b9 ?_ | refine a8 ?_ | refine b8 ?_ | refine f7 rfl ?_ | refine f6 rfl ?_ | ((first | refine d6 (fun K hK => ?_) | refine d8 f8 (fun K hK => ?_) | refine b7 (cp hla ?_) | refine a6 (dp hla ?_) | refine b7 (cp hmo ?_) | refine a6 (dp hmo ?_) | refine b7 (cb haw 0 ?_) | refine a6 (db haw 0 ?_) | fail); simp -implicitDefEqProofs [he]) | refine hK _ ?_ | refine hK _ _ (by rfl) ?_ | fail)
    refine e7 (i8 ?_); simp -implicitDefEqProofs [x7, g7, g9] <;> try rfl
  · obtain ⟨e1, e2⟩ := a38 he
    have hri := a6z (a3w m).1 hfi.1 (by have := hfi.2; omega) (by rw [e1]; have := hfi.2; dsimp only; omega)
    have hrg : rgtP (a3w m).1 = true := by
      unfold rgtP
      rw [e1, a5p, ← e2, b33]
      rfl
    rw [hrg] at hri
    obtain ⟨⟨⟨sx, sl⟩, b, c⟩, hM⟩ : ∃ s, a3w m = s := ⟨_, rfl⟩
    rw [hM] at hmo he hri
    dsimp only at he hri
    subst he
    obtain ⟨mx, ml⟩ := m
    refine e8 Tryz.func3 rfl rfl (Nat.le_of_ble_eq_true rfl) ?_
    repeat' (first | refine d7 ?_ | refine b9 ?_ | refine a8 ?_ | refine b8 ?_ | refine f7 rfl ?_ | refine f6 rfl ?_ | ((first | refine d6 (fun K hK => ?_) | refine d8 f8 (fun K hK => ?_) | refine b7 (cp hla ?_) | refine a6 (dp hla ?_) | refine b7 (cp hmo ?_) | refine a6 (dp hmo ?_) | refine b7 (cp hri ?_) | refine a6 (dp hri ?_) | refine b7 (cb haw 0 ?_) | refine a6 (db haw 0 ?_) | fail); simp -implicitDefEqProofs) | refine hK _ ?_ | refine hK _ _ (by rfl) ?_ | fail)
    refine e7 (i8 ?_); simp -implicitDefEqProofs [x7, g7, g9] <;> try rfl
end Go.Proofs.YthmdllhhmhbhbaaGreatDoor.am
end
section
namespace Go.Proofs.YthmdllhhmhbhbaaGreatDoor.vt
open Go.Proofs.YthmdllhhmhbhbaaGreatDoor.am
set_option linter.unusedVariables false
structure SG where
  t : VT
  pl : Int
  er : Int
abbrev LR := List VT × Int × Int
noncomputable def a1w (x : Lab) (e : Int) : SG := ⟨z0T, x.f, e⟩
def dcl (ml : List VT) (s : ByteArray) : Option Nat := ml.findIdx? fun d => decide (d.lab.s = s)
def b0v (ml : List VT) (s : ByteArray) : Int := match dcl ml s with
  | some i => (i : Nat)
  | none => -1
def a2r (ml : List VT) (s : ByteArray) : Int := match dcl ml s with
  | some i => (ml.getD i z0T).lab.k
  | none => 0
def locS (L : List ByteArray) (s : ByteArray) : Option Nat := L.reverse.findIdx? fun a => decide (a = s)
noncomputable def b40 (ml : List VT) (L : List ByteArray) (x : Lab) : SG := match locS L x.s with
  | some n => ⟨.mk ⟨7, (n : Nat), ⟨#[]⟩, x.f, x.t⟩ [], 0, 0⟩
  | none => if a2r ml x.s = 31 then ⟨.mk ⟨8, b0v ml x.s, ⟨#[]⟩, x.f, x.t⟩ [], 0, 0⟩ else if a2r ml x.s = 32 then ⟨.mk ⟨9, b0v ml x.s, ⟨#[]⟩, x.f, x.t⟩ [], 0, 0⟩ else a1w x 8
def a0i (L : List ByteArray) (y : VT) : List ByteArray := if y.lab.k = 20 ∨ y.lab.k = 21 then L ++ [y.lab.s] else L
def a1k (ml : List VT) (x : Lab) : Lab := ⟨x.k, if x.k = 16 ∨ x.k = 15 ∨ x.k = 4 then b0v ml x.s else x.n, if x.k = 13 ∨ x.k = 17 then x.s else ⟨#[]⟩, x.f, x.t⟩
def b4c (ml : List VT) (x : Lab) : Bool := (decide (x.k = 16) && !decide (a2r ml x.s = 33)) || ((decide (x.k = 15) || decide (x.k = 4)) && !decide (a2r ml x.s = 30))
def a5a (x : Lab) (L : List ByteArray) (i : Nat) (kn : List ByteArray) : List ByteArray := if x.k = 25 ∧ i = 2 then L ++ [x.s] else kn
def b7q (x : Lab) (kn : List ByteArray) (y : VT) : List ByteArray := if x.k = 29 then a0i kn y else kn
noncomputable def seqC (ml : List VT) (x : Lab) (L : List ByteArray) : Nat → List (VT × (List ByteArray → SG)) → List ByteArray → List VT → SG
  | _, [], _, acc => ⟨.mk (a1k ml x) acc, 0, 0⟩
  | i, p :: r, kn, acc => if (p.2 (a5a x L i kn)).er ≠ 0 then ⟨z0T, (p.2 (a5a x L i kn)).pl, (p.2 (a5a x L i kn)).er⟩ else seqC ml x L (i + 1) r (b7q x (a5a x L i kn) p.1) (acc ++ [(p.2 (a5a x L i kn)).t])
noncomputable def anyC (ml : List VT) (x : Lab) (l : List VT) (fs : List (List ByteArray → SG)) (L : List ByteArray) : SG :=
  if x.k = 19 then b40 ml L x else if b4c ml x = true then a1w x 8 else seqC ml x L 0 (l.zip fs) L []
noncomputable def n8 (ml : List VT) (t : VT) : List ByteArray → SG := Tr.fold (anyC ml) t
noncomputable def a5r (ml : List VT) (x : Lab) (L : List ByteArray) : Nat → List VT → List ByteArray → List VT → SG
  | _, [], _, acc => ⟨.mk (a1k ml x) acc, 0, 0⟩
  | i, y :: r, kn, acc => if (n8 ml y (a5a x L i kn)).er ≠ 0 then ⟨z0T, (n8 ml y (a5a x L i kn)).pl, (n8 ml y (a5a x L i kn)).er⟩ else a5r ml x L (i + 1) r (b7q x (a5a x L i kn) y) (acc ++ [(n8 ml y (a5a x L i kn)).t])
theorem b8i (ml : List VT) (x : Lab) (L : List ByteArray) : ∀ (l : List VT) (i : Nat) (kn : List ByteArray) (acc : List VT), seqC ml x L i (l.zip (l.map (n8 ml))) kn acc = a5r ml x L i l kn acc
  | [], i, kn, acc => rfl
  | y :: r, i, kn, acc => by
    rw [List.map_cons, List.zip_cons_cons]
    unfold seqC a5r
    dsimp only
    split
    · rfl
    · exact b8i ml x L r _ _ _
theorem a3j (ml : List VT) (x : Lab) (l : List VT) (L : List ByteArray) : n8 ml (.mk x l) L = if x.k = 19 then b40 ml L x else if b4c ml x = true then a1w x 8 else a5r ml x L 0 l L [] := by
  have h : n8 ml (.mk x l) L = anyC ml x l (l.map (n8 ml)) L := by unfold n8; rw [Tr.fold_mk]
  rw [h]
  show (if x.k = 19 then b40 ml L x else if b4c ml x = true then a1w x 8 else seqC ml x L 0 (l.zip (l.map (n8 ml))) L []) = _
  rw [b8i]
theorem b8j (ml : List VT) (x : Lab) (L : List ByteArray) : ∀ (l : List VT) (i : Nat) (kn : List ByteArray) (acc : List VT), (a5r ml x L i l kn acc).er = 0 → (a5r ml x L i l kn acc).pl = 0
  | [], i, kn, acc, _ => rfl
  | y :: r, i, kn, acc, h => by
    unfold a5r at h ⊢
    split
    · rename_i c; rw [if_pos c] at h; exact absurd h c
    · rename_i c; rw [if_neg c] at h; exact b8j ml x L r _ _ _ h
theorem b6h (ml : List VT) (t : VT) (L : List ByteArray) (h : (n8 ml t L).er = 0) : (n8 ml t L).pl = 0 := by
  obtain ⟨x, l⟩ := t
  rw [a3j] at h ⊢
  split
  · rename_i c
    rw [if_pos c] at h
    unfold b40 at h ⊢
    split
    · rfl
    · rename_i e
      rw [e] at h
      dsimp only at h
      split
      · rfl
      · rename_i k1
        rw [if_neg k1] at h
        split
        · rfl
        · rename_i k2; rw [if_neg k2] at h; exact absurd (show (8 : Int) = 0 from h) (by decide)
  · rename_i c
    rw [if_neg c] at h
    split
    · rename_i d; rw [if_pos d] at h; exact absurd (show (8 : Int) = 0 from h) (by decide)
    · rename_i d; rw [if_neg d] at h; exact b8j ml x L _ _ _ _ h
noncomputable def s4 (ml : List VT) (L : List ByteArray) : List VT → LR
  | [] => ([], 0, 0)
  | y :: r => if (n8 ml y L).er ≠ 0 then ([], (n8 ml y L).pl, (n8 ml y L).er) else if (s4 ml L r).2.2 ≠ 0 then ([], (s4 ml L r).2) else ((n8 ml y L).t :: (s4 ml L r).1, 0, 0)
theorem z6 (ml : List VT) (L : List ByteArray) : ∀ l : List VT, (s4 ml L l).2.2 = 0 → (s4 ml L l).2.1 = 0
  | [], _ => rfl
  | y :: r, h => by
    unfold s4 at h ⊢
    split
    · rename_i c; rw [if_pos c] at h; exact absurd h c
    · rename_i c; rw [if_neg c] at h
      split
      · rename_i d; rw [if_pos d] at h; exact absurd h d
      · rfl
noncomputable def a4e (ml : List VT) : List ByteArray → List VT → LR
  | _, [] => ([], 0, 0)
  | L, y :: r => if (n8 ml y L).er ≠ 0 then ([], (n8 ml y L).pl, (n8 ml y L).er) else if (a4e ml (a0i L y) r).2.2 ≠ 0 then ([], (a4e ml (a0i L y) r).2) else ((n8 ml y L).t :: (a4e ml (a0i L y) r).1, 0, 0)
theorem b6s (ml : List VT) : ∀ (l : List VT) (L : List ByteArray), (a4e ml L l).2.2 = 0 → (a4e ml L l).2.1 = 0
  | [], _, _ => rfl
  | y :: r, L, h => by
    unfold a4e at h ⊢
    split
    · rename_i c; rw [if_pos c] at h; exact absurd h c
    · rename_i c; rw [if_neg c] at h
      split
      · rename_i d; rw [if_pos d] at h; exact absurd h d
      · rfl
def thn (a b : LR) : LR := if a.2.2 ≠ 0 then ([], a.2) else if b.2.2 ≠ 0 then ([], b.2) else (a.1 ++ b.1, 0, 0)
noncomputable def a2d (x : Lab) (acc : List VT) (g : LR) : SG := if g.2.2 ≠ 0 then ⟨z0T, g.2.1, g.2.2⟩ else ⟨.mk x (acc ++ g.1), 0, 0⟩
theorem a0q (ml : List VT) (x : Lab) (L : List ByteArray) (h29 : x.k ≠ 29) : ∀ (l : List VT) (i : Nat) (kn : List ByteArray) (acc : List VT), (x.k = 25 → 3 ≤ i) → a5r ml x L i l kn acc = a2d (a1k ml x) acc (s4 ml kn l)
  | [], i, kn, acc, h => by unfold a5r s4 a2d; simp
  | y :: r, i, kn, acc, h => by
    have e1 : a5a x L i kn = kn := by
      unfold a5a
      rw [if_neg]
      rintro ⟨a, b⟩
      have := h a
      omega
    have e2 : ∀ k, b7q x k y = k := fun k => by unfold b7q; rw [if_neg h29]
    unfold a5r s4
    rw [e1, e2]
    by_cases c : (n8 ml y kn).er = 0
    · rw [if_neg (by simpa using c), if_neg (by simpa using c), a0q ml x L h29 r (i + 1) kn _ (fun a => by have := h a; omega)]
      unfold a2d
      by_cases d : (s4 ml kn r).2.2 = 0 <;> simp [d]
    · rw [if_pos c, if_pos c]; unfold a2d; simp [c]
theorem c1n (ml : List VT) (x : Lab) (L : List ByteArray) (h25 : x.k = 25) : ∀ l : List VT, a5r ml x L 0 l L [] = a2d (a1k ml x) [] (thn (s4 ml L (l.take 2)) (s4 ml (L ++ [x.s]) (l.drop 2)))
  | [] => by unfold a5r a2d thn s4; simp
  | [a] => by
    have k0 : a5a x L 0 L = L := by unfold a5a; rw [if_neg (by simp)]
    have e2 : ∀ k y, b7q x k y = k := fun k y => by unfold b7q; rw [if_neg (by omega)]
    simp only [a5r, k0, e2, List.take, List.drop, s4, thn, a2d]
    by_cases c : (n8 ml a L).er = 0 <;> simp [c]
  | a :: b :: r => by
    have k0 : a5a x L 0 L = L := by unfold a5a; rw [if_neg (by simp)]
    have k1 : a5a x L 1 L = L := by unfold a5a; rw [if_neg (by simp)]
    have e2 : ∀ k y, b7q x k y = k := fun k y => by unfold b7q; rw [if_neg (by omega)]
    have h3 : ∀ acc, a5r ml x L 2 r L acc = a2d (a1k ml x) acc (s4 ml (L ++ [x.s]) r) := fun acc => by
      cases r with
      | nil => unfold a5r s4 a2d; simp
      | cons c r =>
        have k2 : a5a x L 2 L = L ++ [x.s] := by unfold a5a; rw [if_pos ⟨h25, rfl⟩]
        unfold a5r s4
        rw [k2, e2]
        by_cases q : (n8 ml c (L ++ [x.s])).er = 0
        · rw [if_neg (by simpa using q), if_neg (by simpa using q), a0q ml x L (by omega) r 3 _ _ (fun _ => by omega)]
          unfold a2d
          by_cases d : (s4 ml (L ++ [x.s]) r).2.2 = 0 <;> simp [d]
        · rw [if_pos q, if_pos q]; unfold a2d; simp [q]
    rw [show (a :: b :: r).take 2 = [a, b] from rfl, show (a :: b :: r).drop 2 = r from rfl]
    unfold a5r
    rw [k0, e2]
    by_cases c : (n8 ml a L).er = 0
    · rw [if_neg (by simpa using c)]
      unfold a5r
      rw [k1, e2]
      by_cases d : (n8 ml b L).er = 0
      · rw [if_neg (by simpa using d), h3]
        simp only [s4, thn, a2d, c, d]
        by_cases q : (s4 ml (L ++ [x.s]) r).2.2 = 0 <;> simp [q]
      · rw [if_pos d]; simp [s4, thn, a2d, c, d]
    · rw [if_pos c]; simp [s4, thn, a2d, c]
theorem b3s (ml : List VT) (x : Lab) (L : List ByteArray) (h29 : x.k = 29) : ∀ (l : List VT) (i : Nat) (kn : List ByteArray) (acc : List VT), a5r ml x L i l kn acc = a2d (a1k ml x) acc (a4e ml kn l)
  | [], i, kn, acc => by unfold a5r a4e a2d; simp
  | y :: r, i, kn, acc => by
    have e1 : a5a x L i kn = kn := by unfold a5a; rw [if_neg (by omega)]
    have e2 : b7q x kn y = a0i kn y := by unfold b7q; rw [if_pos h29]
    unfold a5r a4e
    rw [e1, e2]
    by_cases c : (n8 ml y kn).er = 0
    · rw [if_neg (by simpa using c), if_neg (by simpa using c), b3s ml x L h29 r (i + 1) _ _]
      unfold a2d
      by_cases d : (a4e ml (a0i kn y) r).2.2 = 0 <;> simp [d]
    · rw [if_pos c, if_pos c]; unfold a2d; simp [c]
noncomputable def c04 (keep : Bool) (g : VT) (s : ByteArray) : VT := if keep = true then .mk { g.lab with s := s } g.kids else g
def a6u (seen : List ByteArray) (s : ByteArray) : Bool := seen.any fun a => decide (a = s)
noncomputable def a0n (ml : List VT) (keep : Bool) (seen : List ByteArray) : List VT → LR
  | [] => ([], 0, 0)
  | y :: r => if a6u seen y.lab.s = true then ([], y.lab.f, 9) else if (n8 ml y []).er ≠ 0 then ([], (n8 ml y []).pl, (n8 ml y []).er) else if (a0n ml keep (seen ++ [y.lab.s]) r).2.2 ≠ 0 then ([], (a0n ml keep (seen ++ [y.lab.s]) r).2) else (c04 keep (n8 ml y []).t y.lab.s :: (a0n ml keep (seen ++ [y.lab.s]) r).1, 0, 0)
noncomputable def fnS (ml : List VT) (x : Lab) (p : Lab) (pl : List VT) (r b : VT) : SG :=
  if (a0n ml false [] pl).2.2 ≠ 0 then ⟨z0T, (a0n ml false [] pl).2.1, (a0n ml false [] pl).2.2⟩
  else if (n8 ml r []).er ≠ 0 then ⟨z0T, (n8 ml r []).pl, (n8 ml r []).er⟩
  else if (n8 ml b (pl.map (·.lab.s))).er ≠ 0 then ⟨z0T, (n8 ml b (pl.map (·.lab.s))).pl, (n8 ml b (pl.map (·.lab.s))).er⟩
  else ⟨.mk ⟨x.k, x.n, ⟨#[]⟩, x.f, x.t⟩ [.mk ⟨p.k, 0, ⟨#[]⟩, p.f, p.t⟩ (a0n ml false [] pl).1, (n8 ml r []).t, (n8 ml b (pl.map (·.lab.s))).t], 0, 0⟩
noncomputable def a1m (ml : List VT) (t : VT) : SG :=
  if t.lab.k = 30 then a2d ⟨t.lab.k, t.lab.n, ⟨#[]⟩, t.lab.f, t.lab.t⟩ [] (a0n ml true [] t.kids)
  else if t.lab.k = 33 then fnS ml t.lab (t.kids.getD 0 z0T).lab (t.kids.getD 0 z0T).kids (t.kids.getD 1 z0T) (t.kids.getD 2 z0T)
  else n8 ml t []
noncomputable def a01 (ml : List VT) : List VT → LR
  | [] => ([], 0, 0)
  | y :: r => if (a1m ml y).er ≠ 0 then ([], (a1m ml y).pl, (a1m ml y).er) else if (a01 ml r).2.2 ≠ 0 then ([], (a01 ml r).2) else ((a1m ml y).t :: (a01 ml r).1, 0, 0)
def a50 (seen : List ByteArray) : List VT → Option Int
  | [] => none
  | y :: r => if a6u seen y.lab.s = true then some y.lab.f else a50 (seen ++ [y.lab.s]) r
noncomputable def b5a (x : Lab) (ml : List VT) : SG := match a50 [] ml with
  | some f => ⟨z0T, f, 9⟩
  | none => a2d ⟨x.k, x.n, ⟨#[]⟩, x.f, x.t⟩ [] (a01 ml ml)
theorem a1p (ml : List VT) (L : List ByteArray) (y : VT) : ∀ l : List VT, s4 ml L (l ++ [y]) = if (s4 ml L l).2.2 ≠ 0 then ([], (s4 ml L l).2) else if (n8 ml y L).er ≠ 0 then ([], (n8 ml y L).pl, (n8 ml y L).er) else ((s4 ml L l).1 ++ [(n8 ml y L).t], 0, 0)
  | [] => by
    simp only [List.nil_append, s4]
    by_cases c : (n8 ml y L).er = 0 <;> simp [c]
  | z :: l => by
    rw [List.cons_append]
    unfold s4
    rw [a1p ml L y l]
    by_cases a : (n8 ml z L).er = 0
    · by_cases b : (s4 ml L l).2.2 = 0
      · by_cases c : (n8 ml y L).er = 0 <;> simp [a, b, c]
      · simp [a, b]
    · simp [a]
def a57 (L : List ByteArray) (l : List VT) : List ByteArray := l.foldl a0i L
theorem b6u (L : List ByteArray) (l : List VT) (y : VT) : a57 L (l ++ [y]) = a0i (a57 L l) y := by unfold a57; rw [List.foldl_append]; rfl
theorem a4g : ∀ (l : List VT) (L : List ByteArray), (a57 L l).take L.length = L ∧ L.length ≤ (a57 L l).length ∧ (a57 L l).length ≤ L.length + l.length
  | [], L => ⟨by simp [a57], Nat.le_refl _, by simp [a57]⟩
  | y :: l, L => by
    obtain ⟨h1, h2, h3⟩ := a4g l (a0i L y)
    have hb : a57 L (y :: l) = a57 (a0i L y) l := rfl
    rw [hb]
    have hm : (a0i L y).take L.length = L ∧ L.length ≤ (a0i L y).length ∧ (a0i L y).length ≤ L.length + 1 := by
      unfold a0i; split <;> simp
    refine ⟨?_, by omega, by simp only [List.length_cons]; omega⟩
    have := congrArg (List.take L.length) h1
    rw [List.take_take, Nat.min_eq_left hm.2.1, hm.1] at this
    exact this
theorem a9h (ml : List VT) (y : VT) : ∀ (l : List VT) (L : List ByteArray), a4e ml L (l ++ [y]) = if (a4e ml L l).2.2 ≠ 0 then ([], (a4e ml L l).2) else if (n8 ml y (a57 L l)).er ≠ 0 then ([], (n8 ml y (a57 L l)).pl, (n8 ml y (a57 L l)).er) else ((a4e ml L l).1 ++ [(n8 ml y (a57 L l)).t], 0, 0)
  | [], L => by
    simp only [List.nil_append, a4e, a57, List.foldl_nil]
    by_cases c : (n8 ml y L).er = 0 <;> simp [c]
  | z :: l, L => by
    rw [List.cons_append]
    have hb : a57 L (z :: l) = a57 (a0i L z) l := rfl
    unfold a4e
    rw [a9h ml y l, hb]
    by_cases a : (n8 ml z L).er = 0
    · by_cases b : (a4e ml (a0i L z) l).2.2 = 0
      · by_cases c : (n8 ml y (a57 (a0i L z) l)).er = 0 <;> simp [a, b, c]
      · simp [a, b]
    · simp [a]
theorem a90 (ml : List VT) (keep : Bool) (y : VT) : ∀ (l : List VT) (seen : List ByteArray), a0n ml keep seen (l ++ [y]) = if (a0n ml keep seen l).2.2 ≠ 0 then ([], (a0n ml keep seen l).2) else if a6u (seen ++ l.map (·.lab.s)) y.lab.s = true then ([], y.lab.f, 9) else if (n8 ml y []).er ≠ 0 then ([], (n8 ml y []).pl, (n8 ml y []).er) else ((a0n ml keep seen l).1 ++ [c04 keep (n8 ml y []).t y.lab.s], 0, 0)
  | [], seen => by
    simp only [List.nil_append, a0n, List.map_nil, List.append_nil]
    by_cases d : a6u seen y.lab.s = true
    · simp [d]
    · by_cases c : (n8 ml y []).er = 0 <;> simp [c, d]
  | z :: l, seen => by
    rw [List.cons_append]
    unfold a0n
    rw [a90 ml keep y l, List.map_cons, show seen ++ z.lab.s :: l.map (·.lab.s) = (seen ++ [z.lab.s]) ++ l.map (·.lab.s) by simp]
    generalize a6u (seen ++ [z.lab.s] ++ l.map (·.lab.s)) y.lab.s = e
    by_cases d : a6u seen z.lab.s = true
    · simp [d]
    · by_cases a : (n8 ml z []).er = 0
      · by_cases b : (a0n ml keep (seen ++ [z.lab.s]) l).2.2 = 0
        · cases e
          · by_cases c : (n8 ml y []).er = 0 <;> simp [d, a, b, c]
          · simp [d, a, b]
        · simp [d, a, b]
      · simp [d, a]
theorem a6n (ml : List VT) (y : VT) : ∀ l : List VT, a01 ml (l ++ [y]) = if (a01 ml l).2.2 ≠ 0 then ([], (a01 ml l).2) else if (a1m ml y).er ≠ 0 then ([], (a1m ml y).pl, (a1m ml y).er) else ((a01 ml l).1 ++ [(a1m ml y).t], 0, 0)
  | [] => by
    simp only [List.nil_append, a01]
    by_cases c : (a1m ml y).er = 0 <;> simp [c]
  | z :: l => by
    rw [List.cons_append]
    unfold a01
    rw [a6n ml y l]
    by_cases a : (a1m ml z).er = 0
    · by_cases b : (a01 ml l).2.2 = 0
      · by_cases c : (a1m ml y).er = 0 <;> simp [a, b, c]
      · simp [a, b]
    · simp [a]
theorem b0g (y : VT) : ∀ (l : List VT) (seen : List ByteArray), a50 seen (l ++ [y]) = match a50 seen l with
    | some f => some f
    | none => if a6u (seen ++ l.map (·.lab.s)) y.lab.s = true then some y.lab.f else none
  | [], seen => by simp [a50]
  | z :: l, seen => by
    rw [List.cons_append]
    unfold a50
    rw [b0g y l, List.map_cons, show seen ++ z.lab.s :: l.map (·.lab.s) = (seen ++ [z.lab.s]) ++ l.map (·.lab.s) by simp]
    generalize a6u (seen ++ [z.lab.s] ++ l.map (·.lab.s)) y.lab.s = e
    by_cases d : a6u seen z.lab.s = true <;> simp [d]
noncomputable def c1l (t : VT) : Prop := Tr.fold (fun x l b => (x.k = 33 → l = []) ∧ (x.k = 19 → l = []) ∧ ∀ q ∈ b, q) t
theorem a5q (x : Lab) (l : List VT) : c1l (.mk x l) ↔ (x.k = 33 → l = []) ∧ (x.k = 19 → l = []) ∧ ∀ y ∈ l, c1l y := by
  unfold c1l
  rw [Tr.fold_mk]
  constructor
  · rintro ⟨h1, h2, h3⟩; exact ⟨h1, h2, fun y hy => h3 _ (List.mem_map_of_mem hy)⟩
  · rintro ⟨h1, h2, h3⟩; refine ⟨h1, h2, fun q hq => ?_⟩
    obtain ⟨y, hy, rfl⟩ := List.mem_map.1 hq
    exact h3 y hy
def scpP (q : VT) : Prop := q.lab.k = 34 ∧ ∀ y ∈ q.kids, c1l y
def scpD (d : VT) : Prop :=
  if d.lab.k = 30 then ∀ q ∈ d.kids, scpP q
  else if d.lab.k = 33 then ∃ p pl r b, d.kids = [.mk p pl, r, b] ∧ p.k = 35 ∧ p.n = 0 ∧ (∀ q ∈ pl, scpP q) ∧ c1l r ∧ c1l b
  else c1l d
end Go.Proofs.YthmdllhhmhbhbaaGreatDoor.vt
end
section
namespace Go.Proofs.YthmdllhhmhbhbaaGreatDoor.am
open Go.ChangeShapes Go.WideShapes Go.ChangeAt Go.RowKit
open vt
set_option linter.unusedVariables false
set_option linter.unusedSimpArgs false
theorem td_errno13 : td Tryz.prog 27 = some ⟨false, 1, 8, [.lit (.int .i64 0)], [], (.int .i64)⟩ := Eq.trans (by kernel_rfl) (Eq.refl _)
theorem td_strs13 : td Tryz.prog 78 = some ⟨false, 1, 24, [.nilS], [], (.slice 9)⟩ := Eq.trans (by kernel_rfl) (Eq.refl _)
attribute [simp] td_errno13 td_strs13
theorem a4h {l : List VT} {s : ByteArray} : dcl l s = none ↔ a6u (l.map (·.lab.s)) s = false := by
  unfold dcl a6u
  simp [List.findIdx?_eq_none_iff]
theorem b2t {l : List VT} {s : ByteArray} {i : Nat} (h : dcl l s = some i) : i < l.length := by
  unfold dcl at h
  exact (List.findIdx?_eq_some_iff_findIdx_eq.1 h).1
abbrev wsS (W : List ByteArray) : List (List PV) := W.map fun s => [Sx s]
theorem u7 (x : Lab) (a : List VT) (g : LR) : (a2d x a g).er = g.2.2 := by
  unfold a2d
  by_cases h : g.2.2 = 0 <;> simp [h]
theorem a05 (x : Lab) (a : List VT) (g : LR) (h : g.2.2 = 0 → g.2.1 = 0) : (a2d x a g).pl = g.2.1 := by
  unfold a2d
  by_cases c : g.2.2 = 0
  · simp [c, h c]
  · simp [c]
theorem a33 (x : Lab) (a : List VT) (g : LR) (h : g.2.2 = 0) : (a2d x a g).t = .mk x (a ++ g.1) := by
  unfold a2d
  simp [h]
def kndD (d : VT) : Prop := d.lab.k = 30 ∨ d.lab.k = 31 ∨ d.lab.k = 32 ∨ d.lab.k = 33
theorem b0h (ml : List VT) (k : Nat) (y : VT) (hy : ml[k]? = some y) (h : a50 [] (ml.take k) = none) : a50 [] (ml.take (k + 1)) = if a6u ((ml.take k).map (·.lab.s)) y.lab.s = true then some y.lab.f else none := by
  rw [show ml.take (k + 1) = ml.take k ++ [y] by rw [List.take_add_one, hy]; rfl, b0g, h]
  rfl
theorem b31 {f : Int} : ∀ (l r : List VT) (seen : List ByteArray), a50 seen l = some f → a50 seen (l ++ r) = some f
  | [], r, seen, h => by simp [a50] at h
  | y :: l, r, seen, h => by
    rw [List.cons_append]
    unfold a50 at h ⊢
    split
    · rename_i c; rw [if_pos c] at h; exact h
    · rename_i c; rw [if_neg c] at h; exact b31 l r _ h
end Go.Proofs.YthmdllhhmhbhbaaGreatDoor.am
end
