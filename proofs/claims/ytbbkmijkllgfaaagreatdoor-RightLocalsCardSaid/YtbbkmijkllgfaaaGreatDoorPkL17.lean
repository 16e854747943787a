import Derived.Test.YtbbkmijkllgfaaaGreatDoorPkL4
import Derived.ChangeOld
import Derived.OpenShut
import Derived.Below
import Derived.Test.YtbbkmijkllgfaaaGreatDoorPkL3
import Derived.Test.YtbbkmijkllgfaaaGreatDoorPkL2
import Derived.Test.YtbbkmijkllgfaaaGreatDoorPkL16
import Derived.Test.YtbbkmijkllgfaaaGreatDoorPkL10
set_option maxRecDepth 100000
set_option maxHeartbeats 4000000
section
namespace Go.Proofs.YtbbkmijkllgfaaaGreatDoor.am
open Go.ChangeShapes Go.WideShapes Go.ChangeAt Go.RowKit
open vt
set_option linter.unusedVariables false
set_option linter.unusedSimpArgs false
theorem c1d {l : List VT} {lv n : Int} : ∀ k, k ≤ l.length → a2v l lv n k ≤ n ∧ (0 ≤ a2v l lv n k → a2v l lv n k + k ≤ n) := fun k => by
  induction k with
  | zero => intro _; rw [a0e]; omega
  | succ k ih =>
    intro hk
    obtain ⟨i1, i2⟩ := ih (by omega)
    have hy : l[k]? = some (l[k]'(by omega)) := List.getElem?_eq_getElem _
    rw [a17 hy]
    split
    · rename_i hc
      have h1 := b2d (l[k]'(by omega)) (a2v l lv n k) (lv - 1) (by omega)
      have h2 := Tr.size_pos (l[k]'(by omega))
      have h3 := i2 hc
      refine ⟨by omega, fun h => ?_⟩
      have := h1.2.2 h
      omega
    · rename_i hc; exact ⟨i1, fun h => absurd h hc⟩
theorem c1z (t : VT) : ∀ left lv : Int, 0 ≤ left → left ≤ 1000000 → lv ≤ 1000 → -1000000 ≤ lv → Row Tryz.prog 12 [vT t, vI left, vI lv] [] (vI (b5w t left lv)) [] := by
  induction t using Tr.ind with
  | h x l ih =>
  intro left lv h0 h1 h2 h3
  have hlen := Tr.len_size (x := x) (l := l)
  rw [c3h]
  refine d7 Tryz.func12 rfl rfl (Nat.le_of_ble_eq_true rfl) ?_
  by_cases hl : lv ≤ 0
  · rw [if_pos hl]
    repeat (first | refine b9 ?_ | refine b6 ?_ | refine a6 ?_ | refine b5 ?_ | refine d8 rfl (fun _ => ?_) (fun hb => absurd hb (by decide)) | refine d8 rfl (fun hb => absurd hb (by decide)) (fun _ => ?_) | (refine b8 (fun K hK => ?_); simp -implicitDefEqProofs [hl]; refine hK _ ?_) | (refine d3 e9 (fun K hK => ?_); simp -implicitDefEqProofs [hl]; refine hK _ _ (by rfl) ?_) | fail)
    refine d6 (d4 ?_); simp -implicitDefEqProofs [f9, f6, f7] <;> try rfl
  rw [if_neg hl]
  have w1 : IntKind.i64.wrap (left - 1) = left - 1 := l4 _ (by omega) (by omega)
  have w3 : IntKind.i64.wrap (lv - 1) = lv - 1 := l4 _ (by omega) (by omega)
  repeat (first | refine b9 ?_ | refine b6 ?_ | refine a6 ?_ | refine b5 ?_ | refine d8 rfl (fun _ => ?_) (fun hb => absurd hb (by decide)) | refine d8 rfl (fun hb => absurd hb (by decide)) (fun _ => ?_) | (refine b8 (fun K hK => ?_); simp -implicitDefEqProofs [hl, w1]; refine hK _ ?_) | (refine d3 e9 (fun K hK => ?_); simp -implicitDefEqProofs [hl, w1]; refine hK _ _ (by rfl) ?_) | fail)
  refine m6 (ι := Nat) (fun k => x5 [(1, vI (a2v l lv (left - 1) k)), (2, vI lv), (3, .v (.c (.ptr 0 0))), (7, vI (k : Nat))] [some (.box (ta (.mk x l)))]) (fun k => k ≤ l.length ∧ -2 ≤ a2v l lv (left - 1) k ∧ a2v l lv (left - 1) k ≤ left) (fun k => l.length - k) 0 ⟨Nat.zero_le _, by rw [a0e]; omega, by rw [a0e]; omega⟩ (e8 [0] (by simp -implicitDefEqProofs [a0e]) (by simp -implicitDefEqProofs [a0e]) (by decide) rfl (by simp)) (fun Z hI k hkz => ?_)
  obtain ⟨hk, hc1, hc2⟩ := hkz
  by_cases hkl : k < l.length; rotate_left
  · have : k = l.length := by omega
    subst this
    repeat (first | refine b9 ?_ | refine b6 ?_ | refine a6 ?_ | refine b5 ?_ | refine d8 rfl (fun _ => ?_) (fun hb => absurd hb (by decide)) | refine d8 rfl (fun hb => absurd hb (by decide)) (fun _ => ?_) | (refine b8 (fun K hK => ?_); simp -implicitDefEqProofs; refine hK _ ?_) | (refine d3 e9 (fun K hK => ?_); simp -implicitDefEqProofs; refine hK _ _ (by rfl) ?_) | fail)
    refine d6 (d4 ?_); simp -implicitDefEqProofs [f9, f6, f7] <;> try rfl
  by_cases hc : 0 ≤ a2v l lv (left - 1) k; rotate_left
  · have := c1e (l := l) (lv := lv) (n := left - 1) (k := k) (by omega) l.length hk (Nat.le_refl _)
    rw [this]
    repeat (first | refine b9 ?_ | refine b6 ?_ | refine a6 ?_ | refine b5 ?_ | refine d8 rfl (fun _ => ?_) (fun hb => absurd hb (by decide)) | refine d8 rfl (fun hb => absurd hb (by decide)) (fun _ => ?_) | (refine b8 (fun K hK => ?_); simp -implicitDefEqProofs [hkl, hc]; refine hK _ ?_) | (refine d3 e9 (fun K hK => ?_); simp -implicitDefEqProofs [hkl, hc]; refine hK _ _ (by rfl) ?_) | fail)
    refine d6 (d4 ?_); simp -implicitDefEqProofs [f9, f6, f7] <;> try rfl
  obtain ⟨⟨ax, al⟩, ha⟩ : ∃ a, l[k]? = some a := ⟨_, List.getElem?_eq_getElem hkl⟩
  have ha' := (List.getElem?_eq_some_iff.1 ha).2
  have hsz1 := Tr.size_at (x := x) ha
  have hcs := a17 (lv := lv) (n := left - 1) ha
  have hkn := (c1d (l := l) (lv := lv) (n := left - 1) k hk).2 hc
  have w2 : IntKind.i64.wrap ((k : Nat) + 1 : Int) = (k : Nat) + 1 := l4 _ (by omega) (by omega)
  rw [if_pos hc] at hcs
  have hle := b2d (.mk ax al) (a2v l lv (left - 1) k) (lv - 1) (by omega)
  repeat (first | refine b9 ?_ | refine b6 ?_ | refine a6 ?_ | refine b5 ?_ | refine d8 rfl (fun _ => ?_) (fun hb => absurd hb (by decide)) | refine d8 rfl (fun hb => absurd hb (by decide)) (fun _ => ?_) | (refine b8 (fun K hK => ?_); simp -implicitDefEqProofs [hkl, hc]; refine hK _ ?_) | (refine d3 e9 (fun K hK => ?_); simp -implicitDefEqProofs [hkl, hc]; refine hK _ _ (by rfl) ?_) | fail)
  refine b8 (fun K hK => ?_); simp -implicitDefEqProofs [hkl, ha, ha', w3]
  refine b7 (a0x (ih _ (List.mem_of_getElem? ha) (a2v l lv (left - 1) k) (lv - 1) (by omega) (by omega) (by omega) (by omega)) (by simp) (fun _ => rfl) rfl ?_)
  simp -implicitDefEqProofs; refine hK _ ?_
  repeat (first | refine b9 ?_ | refine b6 ?_ | refine a6 ?_ | refine b5 ?_ | refine d8 rfl (fun _ => ?_) (fun hb => absurd hb (by decide)) | refine d8 rfl (fun hb => absurd hb (by decide)) (fun _ => ?_) | (refine b8 (fun K hK => ?_); simp -implicitDefEqProofs [w2]; refine hK _ ?_) | (refine d3 e9 (fun K hK => ?_); simp -implicitDefEqProofs [w2]; refine hK _ _ (by rfl) ?_) | fail)
  refine ⟨k + 1, ⟨by omega, by rw [hcs]; omega, by rw [hcs]; omega⟩, (by dsimp only; omega), ?_⟩
  rw [hI]; exact e8 [0] (by simp -implicitDefEqProofs [hcs]) (by simp -implicitDefEqProofs [hcs]) (by decide) rfl (by simp)
theorem c2c (t : VT) : t.size ≤ 1000000 → Row Tryz.prog 13 [vT t] [] (vB (nmd t)) [] := by
  induction t using Tr.ind with
  | h x l ih =>
  intro hsz
  have hlen := Tr.len_size (x := x) (l := l)
  rw [nmd_mk]
  refine d7 Tryz.func13 rfl rfl (Nat.le_of_ble_eq_true rfl) ?_
  by_cases hs : 40 < x.s.size
  · have hs' : (40 : Int) < (x.s.size : Nat) := by omega
    repeat (first | refine b9 ?_ | refine b6 ?_ | refine a6 ?_ | refine b5 ?_ | refine d8 rfl (fun _ => ?_) (fun hb => absurd hb (by decide)) | refine d8 rfl (fun hb => absurd hb (by decide)) (fun _ => ?_) | (refine b8 (fun K hK => ?_); simp -implicitDefEqProofs [hs, hs']; refine hK _ ?_) | (refine d3 e9 (fun K hK => ?_); simp -implicitDefEqProofs [hs, hs']; refine hK _ _ (by rfl) ?_) | fail)
    refine d6 (d4 ?_); simp -implicitDefEqProofs [f9, f6, f7, hs] <;> try rfl
  have hs' : ¬ (40 : Int) < (x.s.size : Nat) := by omega
  repeat (first | refine b9 ?_ | refine b6 ?_ | refine a6 ?_ | refine b5 ?_ | refine d8 rfl (fun _ => ?_) (fun hb => absurd hb (by decide)) | refine d8 rfl (fun hb => absurd hb (by decide)) (fun _ => ?_) | (refine b8 (fun K hK => ?_); simp -implicitDefEqProofs [hs, hs']; refine hK _ ?_) | (refine d3 e9 (fun K hK => ?_); simp -implicitDefEqProofs [hs, hs']; refine hK _ _ (by rfl) ?_) | fail)
  refine m6 (ι := Nat) (fun k => x5 [(1, .v (.c (.ptr 0 0))), (3, vI (k : Nat))] [some (.box (ta (.mk x l)))]) (fun k => k ≤ l.length ∧ c3c nmd l k = false) (fun k => l.length - k) 0 ⟨Nat.zero_le _, b6s _ _⟩ (e8 [0] (by simp -implicitDefEqProofs) (by simp -implicitDefEqProofs) (by decide) rfl (by simp)) (fun Z hI k hkz => ?_)
  obtain ⟨hk, hz⟩ := hkz
  by_cases hkl : k < l.length; rotate_left
  · have : k = l.length := by omega
    subst this
    rw [c05] at hz
    repeat (first | refine b9 ?_ | refine b6 ?_ | refine a6 ?_ | refine b5 ?_ | refine d8 rfl (fun _ => ?_) (fun hb => absurd hb (by decide)) | refine d8 rfl (fun hb => absurd hb (by decide)) (fun _ => ?_) | (refine b8 (fun K hK => ?_); simp -implicitDefEqProofs; refine hK _ ?_) | (refine d3 e9 (fun K hK => ?_); simp -implicitDefEqProofs; refine hK _ _ (by rfl) ?_) | fail)
    refine d6 (d4 ?_); simp -implicitDefEqProofs [f9, f6, f7, hs, hz] <;> try rfl
  obtain ⟨⟨ax, al⟩, ha⟩ : ∃ a, l[k]? = some a := ⟨_, List.getElem?_eq_getElem hkl⟩
  have ha' := (List.getElem?_eq_some_iff.1 ha).2
  have hsz1 := Tr.size_at (x := x) ha
  have w2 : IntKind.i64.wrap ((k : Nat) + 1 : Int) = (k : Nat) + 1 := l4 _ (by omega) (by omega)
  have hcs := b6r (f := nmd) ha
  repeat (first | refine b9 ?_ | refine b6 ?_ | refine a6 ?_ | refine b5 ?_ | refine d8 rfl (fun _ => ?_) (fun hb => absurd hb (by decide)) | refine d8 rfl (fun hb => absurd hb (by decide)) (fun _ => ?_) | (refine b8 (fun K hK => ?_); simp -implicitDefEqProofs [hkl]; refine hK _ ?_) | (refine d3 e9 (fun K hK => ?_); simp -implicitDefEqProofs [hkl]; refine hK _ _ (by rfl) ?_) | fail)
  refine b8 (fun K hK => ?_); simp -implicitDefEqProofs [hkl, ha, ha']
  refine b7 (a0x (ih _ (List.mem_of_getElem? ha) (by omega)) (by simp) (fun _ => rfl) rfl ?_)
  simp -implicitDefEqProofs; refine hK _ ?_
  refine d8 rfl (fun hb => ?_) (fun hb => ?_)
  · have := any_of ha hb
    repeat (first | refine b9 ?_ | refine b6 ?_ | refine a6 ?_ | refine b5 ?_ | refine d8 rfl (fun _ => ?_) (fun hb => absurd hb (by decide)) | refine d8 rfl (fun hb => absurd hb (by decide)) (fun _ => ?_) | (refine b8 (fun K hK => ?_); simp -implicitDefEqProofs; refine hK _ ?_) | (refine d3 e9 (fun K hK => ?_); simp -implicitDefEqProofs; refine hK _ _ (by rfl) ?_) | fail)
    refine d6 (d4 ?_); simp -implicitDefEqProofs [f9, f6, f7, this] <;> try rfl
  · repeat (first | refine b9 ?_ | refine b6 ?_ | refine a6 ?_ | refine b5 ?_ | refine d8 rfl (fun _ => ?_) (fun hb => absurd hb (by decide)) | refine d8 rfl (fun hb => absurd hb (by decide)) (fun _ => ?_) | (refine b8 (fun K hK => ?_); simp -implicitDefEqProofs [w2]; refine hK _ ?_) | (refine d3 e9 (fun K hK => ?_); simp -implicitDefEqProofs [w2]; refine hK _ _ (by rfl) ?_) | fail)
    refine ⟨k + 1, ⟨by omega, by rw [hcs, hz, hb]; rfl⟩, (by dsimp only; omega), ?_⟩
    rw [hI]; exact e8 [0] (by simp -implicitDefEqProofs) (by simp -implicitDefEqProofs) (by decide) rfl (by simp)
theorem b5a (t : VT) : Row Tryz.prog 4 [vT t] [] (vB (b4t t)) [] := by
  refine d7 Tryz.func4 rfl rfl (Nat.le_of_ble_eq_true rfl) ?_
  obtain ⟨x, l⟩ := t
  repeat (first | refine b9 ?_ | refine b6 ?_ | refine a6 ?_ | refine b5 ?_ | refine d8 rfl (fun _ => ?_) (fun hb => absurd hb (by decide)) | refine d8 rfl (fun hb => absurd hb (by decide)) (fun _ => ?_) | (refine b8 (fun K hK => ?_); simp -implicitDefEqProofs; refine hK _ ?_) | (refine d3 e9 (fun K hK => ?_); simp -implicitDefEqProofs; refine hK _ _ (by rfl) ?_) | fail)
  refine b8 (fun K hK => ?_); simp -implicitDefEqProofs
  refine b7 (a0x (c1z (.mk x l) 400 70 (by omega) (by omega) (by omega) (by omega)) (by simp) (fun _ => rfl) rfl ?_)
  by_cases hc : b5w (.mk x l) 400 70 < 0
  · simp -implicitDefEqProofs [hc]; refine hK _ ?_
    refine d6 (d4 ?_); simp -implicitDefEqProofs [f9, f6, f7, b4t, hc] <;> try rfl
  · simp -implicitDefEqProofs [hc]
    refine b7 (a0x (c2c (.mk x l) (by have := (b2d (.mk x l) 400 70 (by omega)).2.2 (by omega); omega)) (by simp) (fun _ => rfl) rfl ?_)
    simp -implicitDefEqProofs; refine hK _ ?_
    refine d6 (d4 ?_); simp -implicitDefEqProofs [f9, f6, f7, b4t, hc] <;> try rfl
end Go.Proofs.YtbbkmijkllgfaaaGreatDoor.am
end
section
namespace Go.Proofs.YtbbkmijkllgfaaaGreatDoor.am
open Go.ChangeShapes Go.WideShapes Go.ChangeAt Go.RowKit
set_option linter.unusedVariables false
set_option linter.unusedSimpArgs false
def b1i (w : World) : CS := fun b _ => b < w.heap.size
def Ty (P : Program) : Nat → TypeId → List PV → Prop
  | 0, _, _ => False
  | n + 1, t, ps =>
    match P.underlying t with
    | some .bool => ∃ b, ps = [.lit (.bool b)]
    | some (.int k) => ∃ z, ps = [.lit (.int k z)] ∧ (Lit.int k z).wf = true
    | some .string => ∃ s : ByteArray, ps = [.lit (.string s)] ∧ s.size ≤ maxLen
    | some (.slice e) => ∃ l : List (List PV), ps = [.sl (P.cellsOf e) l] ∧ l.length ≤ maxLen ∧ ∀ x ∈ l, Ty P n e x
    | some (.struct fs) => ps.length = P.cellsOf t ∧ ∀ f ∈ fs.toList, Ty P n f.type ((ps.drop f.offset).take (P.cellsOf f.type))
    | _ => False
def a3d (P : Program) : Nat → List Field → Nat → Bool
  | off, [], tot => decide (off = tot)
  | off, f :: fs, tot => decide (f.offset = off) && a3d P (off + P.cellsOf f.type) fs tot
def okTy (P : Program) (cl : List TypeId) (t : TypeId) : Bool :=
  match P.underlying t with
  | some .bool => true
  | some (.int _) => true
  | some .string => true
  | some (.slice e) => cl.contains e && decide (0 < P.cellsOf e)
  | some (.struct fs) => (fs.toList.all fun f => cl.contains f.type) && a3d P 0 fs.toList (P.cellsOf t)
  | _ => false
section
variable {P : Program} {S : CS} {w : World}
theorem j9.take {vs : List Value} {l : List PV} (h : j9 S w vs l) (n : Nat) : j9 S w (vs.take n) (l.take n) := by
  have := (j9.cs (γ := fun _ => .un)).1 h
  refine (j9.cs (γ := fun _ => .un)).2 ?_
  rw [List.map_take]; exact l9.take this n
theorem a50 {n : Nat} {cs : List Value} : ∀ (fs : List Field) (off tot : Nat) (ps0 : List PV), j9 S w (cs.take off) ps0 → ps0.length = off → off ≤ cs.length → a3d P off fs tot = true → tot = cs.length →
    (∀ f ∈ fs, ∃ q, j9 S w ((cs.drop f.offset).take (P.cellsOf f.type)) q ∧ Ty P n f.type q) →
    ∃ ps, j9 S w cs ps ∧ ps.take off = ps0 ∧ ∀ f ∈ fs, off ≤ f.offset ∧ Ty P n f.type ((ps.drop f.offset).take (P.cellsOf f.type))
  | [], off, tot, ps0, h0, hl, hle, hc, ht, _ => by
    have : off = tot := by simpa [a3d] using hc
    subst this
    subst ht
    rw [List.take_length] at h0
    exact ⟨ps0, h0, by rw [← hl, List.take_length], fun f hf => by simp at hf⟩
  | f :: fs, off, tot, ps0, h0, hl, hle, hc, ht, hf => by
    unfold a3d at hc
    rw [Bool.and_eq_true] at hc
    have hoff : f.offset = off := of_decide_eq_true hc.1
    obtain ⟨q, hq, hty⟩ := hf f (by simp)
    rw [hoff] at hq
    obtain ⟨sz, hsz⟩ : ∃ sz, P.cellsOf f.type = sz := ⟨_, rfl⟩
    rw [hsz] at hq hc
    have hend : off + sz ≤ cs.length := by
      have key : ∀ (fs : List Field) (o : Nat), a3d P o fs tot = true → o ≤ tot := fun fs => by
        induction fs with
        | nil => intro o h; have : o = tot := by simpa [a3d] using h
                 omega
        | cons g gs ih => intro o h; unfold a3d at h; rw [Bool.and_eq_true] at h; have := ih _ h.2; omega
      have := key fs _ hc.2
      omega
    have hql : q.length = sz := by rw [← hq.1, List.length_take, List.length_drop]; omega
    have h1 : j9 S w (cs.take (off + sz)) (ps0 ++ q) := by
      rw [List.take_add]; exact h0.append hq
    obtain ⟨ps, k1, k2, k3⟩ := a50 fs (off + sz) tot (ps0 ++ q) h1 (by rw [List.length_append, hl, hql]) hend hc.2 ht (fun g hg => hf g (by simp [hg]))
    refine ⟨ps, k1, ?_, fun g hg => ?_⟩
    · have : (ps.take (off + sz)).take off = (ps0 ++ q).take off := by rw [k2]
      rw [List.take_take, Nat.min_eq_left (by omega)] at this
      rw [this, ← hl, List.take_left']; rfl
    · rcases List.mem_cons.1 hg with rfl | hg
      · refine ⟨by omega, ?_⟩
        rw [hoff, hsz]
        have : (ps.take (off + sz)).drop off = (ps0 ++ q).drop off := by rw [k2]
        rw [List.drop_take, Nat.add_sub_cancel_left] at this
        rw [this, ← hl, List.drop_left']; · exact hty
        rfl
      · have := k3 g hg; exact ⟨by omega, this.2⟩
theorem b3t {H : Type} {enc : TypeId × Value → H} {cl : List TypeId} (hcl : cl.all (okTy P cl) = true) : ∀ (n : Nat) (t : TypeId) (cs : List Value) (y : DataW H × List MemPlace), t ∈ cl → DataW.trod enc P w 0 (fun _ => true) true n t cs = some y → ∃ ps, j9 (b1i w) w cs ps ∧ Ty P n t ps := by
  intro n
  induction n with
  | zero => intro t cs y _ h; simp [DataW.trod] at h
  | succ n ih =>
    intro t cs y ht h
    have hok := List.all_eq_true.1 hcl t ht
    have one : ∀ {v : Value} {p : PV}, RepP (b1i w) w v p → j9 (b1i w) w [v] [p] := fun {v p} hp => ⟨rfl, fun i c hc => by
      cases i with
      | zero => simp at hc; subst hc; exact ⟨v, rfl, hp⟩
      | succ i => simp at hc⟩
    unfold okTy at hok
    cases hu : P.underlying t with
    | none => rw [hu] at hok; cases hok
    | some u =>
      rw [hu] at hok
      unfold Ty
      rw [hu]
      cases u with
      | bool =>
        obtain ⟨b, rfl, _⟩ := DataW.trod_bool hu h
        exact ⟨_, one (.lit _ rfl), b, rfl⟩
      | int k =>
        obtain ⟨z, rfl, _, hz⟩ := DataW.trod_int hu h
        exact ⟨_, one (.lit _ rfl), z, rfl, hz⟩
      | string =>
        obtain ⟨s, rfl, _, hs⟩ := DataW.trod_string hu h
        exact ⟨_, one (.lit _ rfl), s, rfl, hs⟩
      | slice e =>
        dsimp only at hok
        rw [Bool.and_eq_true] at hok
        have he : e ∈ cl := by simpa using hok.1
        have hpos : 0 < P.cellsOf e := of_decide_eq_true hok.2
        rcases DataW.trod_slice hu h with ⟨rfl, _⟩ | ⟨x, len, cap, elems, rest, m, hmf, rfl, hd, _, hl, hm, hlen, hele, hsp, _⟩
        · exact ⟨_, one (.emp none 0 (P.cellsOf e) (by omega) (fun _ => rfl)), [], rfl, Nat.zero_le _, fun x hx => by simp at hx⟩
        · have hmn : m = n := by omega
          subst hmn
          rcases Nat.eq_zero_or_pos len with h0 | hn
          · subst h0
            exact ⟨_, one (.emp (some x) cap (P.cellsOf e) (by unfold maxLen at hm; omega) (fun h => by cases h)), [], rfl, Nat.zero_le _, fun x hx => by simp at hx⟩
          · obtain ⟨b, off, spot⟩ := x
            obtain ⟨sz, hsz⟩ : ∃ sz, P.cellsOf e = sz := ⟨_, rfl⟩
            rw [hsz] at hpos hele
            show ∃ ps, j9 (b1i w) w [Value.slice (some ⟨b, off, spot⟩) len cap] ps ∧ ∃ l : List (List PV), ps = [.sl (P.cellsOf e) l] ∧ l.length ≤ maxLen ∧ ∀ x ∈ l, Ty P m e x
            rw [hsz]
            have each : ∀ i, i < len → ∃ cs y, w.cells? 0 ((⟨b, off, spot⟩ : Addr).add (i * sz)) sz = some cs ∧ DataW.trod enc P w 0 (fun _ => true) true m e cs = some y := by
              intro i hi
              have := hele i hi
              have hs : ∃ y, elems[i]? = some y := ⟨elems[i], List.getElem?_eq_getElem (by omega)⟩
              obtain ⟨y, hy⟩ := hs
              rw [hy] at this
              obtain ⟨cs, h1, h2⟩ := Option.bind_eq_some_iff.1 this
              exact ⟨cs, y, h1, h2⟩
            obtain ⟨cs0, y0, k0, _⟩ := each 0 hn
            have c0 := (World.cells?_some k0)
            have hspot : spot = none := by
              have h1 := c0.2.2 0 hpos
              have hlt : (0 : Nat) < cs0.length := by have := c0.2.1; omega
              rw [List.getElem?_eq_getElem hlt] at h1
              simpa [Addr.add] using World.cell?_spot h1
            subst hspot
            have hblk : b < w.heap.size := by
              have := World.cells?_block k0 hpos
              simpa [l8] using this
            obtain ⟨L, hL, hq⟩ := bs.choose_list len (fun i (x : List Value × List PV) => x.1.length = sz ∧ (∀ j, j < sz → w.cell? ⟨b, off + i * sz + j, none⟩ = x.1[j]?) ∧ j9 (b1i w) w x.1 x.2 ∧ Ty P m e x.2) (fun i hi => by
              obtain ⟨cs, y, k1, k2⟩ := each i hi
              have k3 := World.cells?_some k1
              rw [l8] at k3
              obtain ⟨ps, p1, p2⟩ := ih e cs y he k2
              refine ⟨(cs, ps), k3.2.1, fun j hj => ?_, p1, p2⟩
              have := k3.2.2 j hj
              rwa [l8] at this)
            have at' : ∀ i e', (L.map (·.2))[i]? = some e' → ∃ x : List Value × List PV, L[i]? = some x ∧ e' = x.2 := fun i e' h => by
              rw [List.getElem?_map] at h
              obtain ⟨x, h1, h2⟩ := Option.map_eq_some_iff.1 h
              exact ⟨x, h1, h2.symm⟩
            refine ⟨_, one (.sl b off len cap sz (L.map (·.2)) (by rw [List.length_map, hL]) hn hl (by unfold maxLen at hm; omega) (fun e' he' => ?_)
              (fun i j => ((L[i]?).bind (fun x => x.1[j]?)).getD undef) (fun i e' j p h1 h2 => ?_) (fun i e' j p h1 h2 => ?_)), L.map (·.2), rfl, by rw [List.length_map, hL]; omega, fun x hx => ?_⟩
            · obtain ⟨i, hi⟩ := List.mem_iff_getElem?.1 he'
              obtain ⟨x, hx, rfl⟩ := at' i e' hi
              have := hq i x hx
              rw [← this.2.2.1.1, this.1]
            · obtain ⟨x, hx, rfl⟩ := at' i e' h1
              have := hq i x hx
              have hj : j < sz := by have := (List.getElem?_eq_some_iff.1 h2).1; rw [← (hq i x hx).2.2.1.1, (hq i x hx).1] at this; exact this
              refine ⟨hblk, ?_⟩
              rw [this.2.1 j hj, hx]
              obtain ⟨v, hv, _⟩ := this.2.2.1.2 j p h2
              rw [hv]; simp [hv]
            · obtain ⟨x, hx, rfl⟩ := at' i e' h1
              obtain ⟨v, hv, hr⟩ := (hq i x hx).2.2.1.2 j p h2
              rw [hx]; simp [hv]; exact hr
            · obtain ⟨i, hi⟩ := List.mem_iff_getElem?.1 hx
              obtain ⟨z, hz, rfl⟩ := at' i x hi
              exact (hq i z hz).2.2.2
      | struct fs =>
        dsimp only at hok
        rw [Bool.and_eq_true] at hok
        obtain ⟨xs, m, hmf, _, hcl', hxl, hg⟩ := DataW.trod_struct hu h
        have hmn : m = n := by omega
        subst hmn
        obtain ⟨ps, k1, _, k3⟩ := a50 (P := P) (S := b1i w) (w := w) (n := m) (cs := cs) fs.toList 0 (P.cellsOf t) [] ⟨by simp, fun i c h => by simp at h⟩ rfl (Nat.zero_le _) hok.2 hcl'.symm (fun f hf => by
          obtain ⟨i, hi⟩ := List.mem_iff_getElem?.1 hf
          have hi' : fs[i]? = some f := by simpa using hi
          have h1 := hg i f hi'
          have hlt : i < xs.length := by
            have := (Array.getElem?_eq_some_iff.1 hi').1
            omega
          rw [List.getElem?_eq_getElem hlt] at h1
          exact ih f.type _ _ (by have := List.all_eq_true.1 hok.1 f hf; simpa using this) h1)
        exact ⟨ps, k1, by rw [← k1.1, hcl'], fun f hf => (k3 f hf).2⟩
      | _ => cases hok
theorem b8g {H : Type} {enc : TypeId × Value → H} {cl : List TypeId} {t : TypeId} {v : Value} {d : DataW H} {p : List MemPlace} (hcl : cl.all (okTy P cl) = true) (ht : t ∈ cl) (h1 : v.oneCell' = true) (h : DataW.Trod enc P w 0 (fun _ => true) true t v d p) : ∃ n q, j5 (fun _ => .un) (b1i w) w v (.v (.c (.pv q))) ∧ Ty P n t [q] := by
  obtain ⟨n, h⟩ := h
  have e : v.cells.toList = [v] := by cases v <;> simp_all [Value.oneCell', Value.cells]
  rw [e] at h
  obtain ⟨ps, k1, k2⟩ := b3t hcl n t _ _ ht h
  match ps, k1, k2 with
  | [q], k1, k2 =>
    obtain ⟨u, hu, hr⟩ := k1.2 0 q rfl
    simp at hu; subst hu
    exact ⟨n, q, hr, k2⟩
  | [], k1, _ => have := k1.1; simp at this
  | _ :: _ :: _, k1, _ => have := k1.1; simp at this
theorem c1v {H : Type} {enc : TypeId × Value → H} {cl : List TypeId} {t : TypeId} {cs : Array Value} {d : DataW H} {p : List MemPlace} (hcl : cl.all (okTy P cl) = true) (ht : t ∈ cl) (h : DataW.Trod enc P w 0 (fun _ => true) true t (.agg cs) d p) : ∃ n ps, j5 (fun _ => .un) (b1i w) w (.agg cs) (.v (.agg (ps.map .pv))) ∧ Ty P n t ps := by
  obtain ⟨n, h⟩ := h
  obtain ⟨ps, k1, k2⟩ := b3t hcl n t _ _ ht h
  exact ⟨n, ps, ⟨cs, rfl, j9.cs.1 k1⟩, k2⟩
theorem c2s {α : Type} {f : α → List PV} {Q : α → Prop} {t e : TypeId} (hu : P.underlying t = some (.slice e)) (hel : ∀ n x, Ty P n e x → ∃ a, x = f a ∧ Q a) {n : Nat} {ps : List PV} (h : Ty P n t ps) : ∃ L : List α, ps = [.sl (P.cellsOf e) (L.map f)] ∧ L.length ≤ maxLen ∧ ∀ a ∈ L, Q a := by
  cases n with
  | zero => exact h.elim
  | succ n =>
    unfold Ty at h
    rw [hu] at h
    obtain ⟨l, e3, hm, hl⟩ := h
    obtain ⟨L, hL, hq⟩ := bs.choose_list l.length (fun i (x : α) => l[i]? = some (f x) ∧ Q x) (fun i hi => by
      obtain ⟨x, h1, h2⟩ := hel n (l[i]'hi) (hl _ (List.getElem_mem hi))
      exact ⟨x, by rw [List.getElem?_eq_getElem hi, h1], h2⟩)
    have hlm : l = L.map f := by
      apply List.ext_getElem?
      intro i
      rw [List.getElem?_map]
      by_cases hi : i < L.length
      · have := hq i _ (List.getElem?_eq_getElem hi)
        rw [this.1, List.getElem?_eq_getElem hi]; rfl
      · rw [List.getElem?_eq_none (by omega), List.getElem?_eq_none (by omega)]; rfl
    refine ⟨L, by rw [e3, hlm], by rw [hL]; exact hm, fun a ha => ?_⟩
    obtain ⟨i, hi⟩ := List.mem_iff_getElem?.1 ha
    exact (hq i a hi).2
end
end Go.Proofs.YtbbkmijkllgfaaaGreatDoor.am
end
section
namespace Go.Proofs.YtbbkmijkllgfaaaGreatDoor.am
open Go.ChangeShapes Go.WideShapes Go.ChangeAt Go.RowKit
set_option linter.unusedVariables false
abbrev newS (S : CS) (w w' : World) : CS := fun b o => S b o ∨ (w.heap.size ≤ b ∧ b < w'.heap.size)
theorem Mem.below {γ : Nat → G} {S : CS} {w w' : World} {ch : List AO} (hm : Mem ⟨w, S, γ, []⟩ (fun x => ch[x]?) (fun x => ch.length ≤ x) γ S w) (hb : Below w.heap.size w w') :
    Mem ⟨w, S, γ, []⟩ (fun x => ((ch.map some)[x]?).join) (fun x => (ch.map some).length ≤ x) γ (newS S w w') w' := by
  have hj : ∀ x, ((ch.map some)[x]?).join = ch[x]? := fun x => by
    rw [List.getElem?_map]
    cases ch[x]? <;> rfl
  refine ⟨hb.os, hb.tape, hb.output, hb.size, fun b h _ => hb.block b h, fun b o h => ⟨.inl h, hb.cell (p := ⟨b, o, none⟩) (hm.inb b o h)⟩, fun b o h => h.elim .inl (fun h => .inr (.inl h.1)), fun b o h => h.elim (fun h => Nat.lt_of_lt_of_le (hm.inb b o h) hb.size) (fun h => h.2), GOn.refl _,
    fun x hx => hm.un x (by rw [List.length_map] at hx; exact hx), fun x hx => hm.off x (by rw [← hj]; exact hx), fun x o hx => ?_, hm.dist, fun x b h => ⟨Nat.lt_of_lt_of_le (hm.live x b h).1 hb.size, (hm.live x b h).2⟩⟩
  refine a1o.on (hm.obj x o (by rw [← hj]; exact hx)) rfl (GOn.refl _) (fun _ _ h => .inl h) (fun b o h => hb.cell (p := ⟨b, o, none⟩) (hm.inb b o h)) (fun b hbk => ⟨hb.block b (hm.live x b hbk).1, fun o h => h.elim (fun h => h) (fun h => ?_)⟩)
  have := (hm.live x b hbk).1
  exact absurd h.1 (Nat.not_le.2 this)
theorem a2h {P : Program} {f : FuncId} {args : List AV} {ch : List AO} {res : AV}
    (h : ∀ (γ : Nat → G) (S : CS) (w : World) (vs : List Value), Mem ⟨w, S, γ, []⟩ (fun x => ch[x]?) (fun x => ch.length ≤ x) γ S w → t8 γ S w vs args →
      Calls P f vs.toArray w fun e w' => ∃ v, e = .returned v ∧ Below w.heap.size w w' ∧ j5 γ (newS S w w') w' v res) : Spec P f args ch res (ch.map some) := fun γ S w vs hm hv => by
  refine (h γ S w vs hm hv).mono ?_
  rintro e w' ⟨v, h1, h2, h3⟩
  exact ⟨v, γ, newS S w w', h1, hm.below h2, h3⟩
theorem b77 {γ : Nat → G} {S : CS} {w : World} {x : Nat} {L : List (Nat × Array Value)} (h : a1o γ S w x (.lib L)) {g : Nat} {cs : Array Value} (hg : (g, cs) ∈ L) (hne : 0 < cs.size) : ∃ t z, w.heap[g]? = some (.cells cs t z) := by
  have hc := fun o => (h.2 _ hg o).2
  dsimp only at hc
  have h0 := hc 0
  unfold World.cell? at hc h0
  cases hh : w.heap[g]? with
  | none => rw [hh] at h0; rw [Array.getElem?_eq_getElem hne] at h0; cases h0
  | some ob =>
    cases ob with
    | cells c t z =>
      refine ⟨t, z, ?_⟩
      have : c = cs := by
        apply Array.ext_getElem?
        intro i
        have := hc i
        rw [hh] at this
        simpa using this
      rw [this]
    | _ => rw [hh] at h0; rw [Array.getElem?_eq_getElem hne] at h0; cases h0
theorem b1b {P : Program} {γ : Nat → G} {S : CS} {w : World} {x : Nat} {L : List (Nat × Array Value)} (h : a1o γ S w x (.lib L)) {n : String} {g : Nat} (hn : P.globalNamed n = some g) {cs : Array Value} (hg : (g, cs) ∈ L) (hne : 0 < cs.size) : w.var? P n = some cs := by
  obtain ⟨t, z, hb⟩ := b77 h hg hne
  unfold World.var?
  rw [hn]
  show (match w.heap[g]? with | some (.cells cs _ _) => some cs | _ => none) = _
  rw [hb]
theorem b1y {P : Program} {w : World} {n : String} {g : Nat} (hn : P.globalNamed n = some g) {cs : Array Value} (h : w.var? P n = some cs) : ∀ o, g < w.heap.size ∧ w.cell? ⟨g, o, none⟩ = cs[o]? := by
  unfold World.var? at h
  rw [hn] at h
  have h : (match w.heap[g]? with | some (.cells cs _ _) => some cs | _ => none) = some cs := h
  intro o
  cases hh : w.heap[g]? with
  | none => rw [hh] at h; cases h
  | some ob =>
    refine ⟨(Array.getElem?_eq_some_iff.1 hh).1, ?_⟩
    cases ob with
    | cells c t z =>
      rw [hh] at h
      obtain rfl := Option.some.inj h
      unfold World.cell?
      rw [hh]
      rfl
    | _ => rw [hh] at h; cases h
theorem calls_of_lib {P : Program} {w : World} {f : FuncId} {args : List AV} {vs : List Value} {L : List (Nat × Array Value)} (h : Row P f args [.lib L] (.v (.c (.pv (.lit (.bool true))))) [some (.lib L)]) (hL : ∀ p ∈ L, ∀ o, p.1 < w.heap.size ∧ w.cell? ⟨p.1, o, none⟩ = p.2[o]?)
    (hv : t8 (fun _ => .un) (b1i w) w vs args) : Calls P f vs.toArray w fun e w' => e = .returned (.bool true) ∧ Below w.heap.size w w' := by
  have hbk : ∀ x b, (((fun x : Nat => if x = 0 then G.lib else G.un) x).bk = some b) → False := fun x b h => by
    dsimp only at h
    by_cases hx : x = 0
    · rw [if_pos hx] at h; cases h
    · rw [if_neg hx] at h; cases h
  have hm : Mem ⟨w, b1i w, fun x => if x = 0 then .lib else .un, []⟩ (fun x => [AO.lib L][x]?) (fun x => [AO.lib L].length ≤ x) (fun x => if x = 0 then .lib else .un) (b1i w) w := by
    refine ⟨rfl, rfl, rfl, Nat.le_refl _, fun _ _ _ => rfl, fun _ _ h => ⟨h, rfl⟩, fun _ _ h => .inl h, fun _ _ h => h, GOn.refl _, fun x hx => ?_, fun x hx => ?_, fun x o hx => ?_, fun x y _ b h _ => hbk x b h, fun x b h => (hbk x b h).elim⟩
    · have hx : 1 ≤ x := hx
      exact if_neg (by omega)
    · left
      cases x with
      | zero => cases hx
      | succ x => rfl
    · cases x with
      | zero =>
        obtain rfl := Option.some.inj hx
        exact ⟨rfl, fun p hp o => hL p hp o⟩
      | succ x => simp at hx
  have hmono : ∀ (vs : List Value) (args : List AV), t8 (fun _ => .un) (b1i w) w vs args → t8 (fun x => if x = 0 then .lib else .un) (b1i w) w vs args := by
    intro vs
    induction vs with
    | nil => intro args h; cases args with
      | nil => trivial
      | cons _ _ => exact h.elim
    | cons v vs ih => intro args h; cases args with
      | nil => exact h.elim
      | cons a args => exact ⟨j5.mono (fun _ => .inl rfl) (fun _ _ h => h) (fun _ _ _ => rfl) h.1, ih args h.2⟩
  refine (h.spec _ _ w vs hm (hmono vs args hv)).mono ?_
  rintro e w' ⟨v, γ', S', rfl, m, hr⟩
  obtain ⟨rfl, _⟩ := j6 hr
  exact ⟨rfl, m.os, m.tape, m.output, m.size, fun b hb => m.frame b hb (fun x h => hbk x b h)⟩
end Go.Proofs.YtbbkmijkllgfaaaGreatDoor.am
end
section
namespace Go.Proofs.YtbbkmijkllgfaaaGreatDoor.am
open Go.ChangeShapes Go.WideShapes Go.ChangeAt Go.RowKit
open vt
set_option linter.unusedVariables false
set_option linter.unusedSimpArgs false
theorem b67 (m ret : VT) : ∀ (p : List Int) (t u : VT) (L : List VT) (B : Nat), atO p t = some u → m7 t → Cn m L ret B t.size → (∀ y ∈ bwT (z6 m) (p.map Int.toNat) t L, y.size ≤ 400000) ∧ (bwT (z6 m) (p.map Int.toNat) t L).length ≤ 400000
  | [], t, u, L, B, _, _, hc => ⟨fun y hy => by have := (hc.hL y hy).2; have := hc.le; omega, by show L.length ≤ _; have := hc.len; omega⟩
  | i :: p, .mk x l, u, L, B, h, ht, hc => by
    obtain ⟨k, v, rfl, hv, hu⟩ := u2 h
    obtain ⟨B', hc'⟩ := b18 ht hc hv
    rw [List.map_cons, Int.toNat_natCast, b0u, List.getD_eq_getElem?_getD, hv, show (some v).getD z0T = v from rfl]
    exact b67 m ret p v u _ B' hu (((Tr.all_mk _ _ _).1 ht).2 v (List.mem_of_getElem? hv)) hc'
theorem c5n {m : VT} (hm : m7 m) (hms : m.size ≤ 100000) (hr : c0f m = true) (p : List Int) (u : VT) (h : atO p m = some u) : (∀ t ∈ ldD m (p.map Int.toNat), t.size ≤ 400000) ∧ (ldD m (p.map Int.toNat)).length ≤ 400000 := by
  have e0 : ∀ t ∈ ([] : List VT), t.size ≤ 400000 := fun t ht => by cases ht
  match p, h with
  | [], _ => exact ⟨e0, by show (0 : Nat) ≤ 400000; decide⟩
  | [i], _ => exact ⟨e0, by show (0 : Nat) ≤ 400000; decide⟩
  | i :: j :: p, h =>
    obtain ⟨mx, ml⟩ := m
    obtain ⟨k, d, rfl, hd, h1⟩ := u2 h
    rw [List.map_cons, List.map_cons, Int.toNat_natCast, a2b, show (Tr.mk mx ml).kids = ml from rfl, List.getD_eq_getElem?_getD, hd, show (some d).getD z0T = d from rfl]
    split
    · rename_i hk
      obtain ⟨x, l⟩ := d
      have hsz := Tr.size_at (x := mx) hd
      have hin := ((Tr.all_mk _ _ _).1 hm).2 _ (List.mem_of_getElem? hd)
      obtain ⟨he, hn⟩ := a9m hr (i := k) (d := .mk x l) hd
      obtain ⟨q, r, b, rfl, h35, h29, hp, -, -, hst⟩ := a82 (m := .mk mx ml) hk.1 he
      obtain ⟨hT, hTl⟩ := b3x (m := .mk mx ml) hm hms (d := .mk x [q, r, b]) hd hp
      have hbi := ((Tr.all_mk _ _ _).1 hin).2 b (by simp)
      have hri := ((Tr.all_mk _ _ _).1 hin).2 r (by simp)
      have hbs := Tr.size_at (x := x) (l := [q, r, b]) (i := 2) rfl
      have hrs := Tr.size_at (x := x) (l := [q, r, b]) (i := 1) rfl
      obtain ⟨k2, v, rfl, hv, hu⟩ := u2 h1
      have h2 : k2 = 2 := by have := hk.2; rw [Int.toNat_natCast] at this; exact this
      subst h2
      cases hv
      exact b67 (.mk mx ml) r p b u _ 100000 hu hbi ⟨⟨hm, hms⟩, hT, by omega, by omega, ⟨hri, by omega⟩⟩
    · exact ⟨e0, by show (0 : Nat) ≤ 400000; decide⟩
theorem law_rlocals_row (LL : List (Nat × Array Value)) (haw : Row Tryz.prog 6 [] [.lib LL] (vB true) [some (.lib LL)]) (m : VT) (hm : m7 m) (p : List Int) : Row Tryz.prog 3 [vT m, vIs p] [.lib LL] (vB true) [some (.lib LL)] := by
  have hla := b5a m
  obtain ⟨q, hq⟩ : ∃ q, b4t m = q := ⟨_, rfl⟩
  rw [hq] at hla
  cases q with
  | true =>
    obtain ⟨mx, ml⟩ := m
    refine d7 Tryz.func3 rfl rfl (Nat.le_of_ble_eq_true rfl) ?_
    repeat' (first | refine b9 ?_ | refine b6 ?_ | refine a6 ?_ | refine b5 ?_ | refine e7 rfl ?_ | refine d9 rfl ?_ | ((first | refine b8 (fun K hK => ?_) | refine d3 e9 (fun K hK => ?_) | refine b7 (cp hla ?_) | refine a8 (dp hla ?_) | refine b7 (cb haw 0 ?_) | refine a8 (db haw 0 ?_) | fail); simp -implicitDefEqProofs) | refine hK _ ?_ | refine hK _ _ (by rfl) ?_ | fail)
    refine d6 (g7 ?_); simp -implicitDefEqProofs [s9, f6, f7] <;> try rfl
  | false =>
  have hs := b4u hq
  by_cases h100 : 100 < p.length
  · have h1 : (100 : Int) < p.length := by omega
    obtain ⟨mx, ml⟩ := m
    refine d7 Tryz.func3 rfl rfl (Nat.le_of_ble_eq_true rfl) ?_
    repeat' (first | refine b9 ?_ | refine b6 ?_ | refine a6 ?_ | refine b5 ?_ | refine e7 rfl ?_ | refine d9 rfl ?_ | ((first | refine b8 (fun K hK => ?_) | refine d3 e9 (fun K hK => ?_) | refine b7 (cp hla ?_) | refine a8 (dp hla ?_) | refine b7 (cb haw 0 ?_) | refine a8 (db haw 0 ?_) | fail); simp -implicitDefEqProofs [h100, h1]) | refine hK _ ?_ | refine hK _ _ (by rfl) ?_ | fail)
    refine d6 (g7 ?_); simp -implicitDefEqProofs [s9, f6, f7] <;> try rfl
  have h1 : ¬ (100 : Int) < p.length := by omega
  have hrr := b5c m hm (by omega)
  obtain ⟨g, hg⟩ : ∃ g, c0f m = g := ⟨_, rfl⟩
  rw [hg] at hrr
  cases g with
  | false =>
    obtain ⟨mx, ml⟩ := m
    refine d7 Tryz.func3 rfl rfl (Nat.le_of_ble_eq_true rfl) ?_
    repeat' (first | refine b9 ?_ | refine b6 ?_ | refine a6 ?_ | refine b5 ?_ | refine e7 rfl ?_ | refine d9 rfl ?_ | ((first | refine b8 (fun K hK => ?_) | refine d3 e9 (fun K hK => ?_) | refine b7 (cp hla ?_) | refine a8 (dp hla ?_) | refine b7 (cp hrr ?_) | refine a8 (dp hrr ?_) | refine b7 (cb haw 0 ?_) | refine a8 (db haw 0 ?_) | fail); simp -implicitDefEqProofs [h100, h1]) | refine hK _ ?_ | refine hK _ _ (by rfl) ?_ | fail)
    refine d6 (g7 ?_); simp -implicitDefEqProofs [s9, f6, f7] <;> try rfl
  | true =>
  have hle := a6h p m (by omega)
  cases hat : atO p m with
  | none =>
    rw [hat] at hle
    have hlo := b4o m p (by omega) hat
    obtain ⟨mx, ml⟩ := m
    refine d7 Tryz.func3 rfl rfl (Nat.le_of_ble_eq_true rfl) ?_
    repeat' (first | refine b9 ?_ | refine b6 ?_ | refine a6 ?_ | refine b5 ?_ | refine e7 rfl ?_ | refine d9 rfl ?_ | ((first | refine b8 (fun K hK => ?_) | refine d3 e9 (fun K hK => ?_) | refine b7 (cp hla ?_) | refine a8 (dp hla ?_) | refine b7 (cp hrr ?_) | refine a8 (dp hrr ?_) | refine b7 (cp hlo ?_) | refine a8 (dp hlo ?_) | refine b7 (cp hle ?_) | refine a8 (dp hle ?_) | refine b7 (cb haw 0 ?_) | refine a8 (db haw 0 ?_) | fail); simp -implicitDefEqProofs [h100, h1]) | refine hK _ ?_ | refine hK _ _ (by rfl) ?_ | fail)
    refine d6 (g7 ?_); simp -implicitDefEqProofs [s9, f6, f7] <;> try rfl
  | some u =>
  rw [hat] at hle
  obtain ⟨hled, hge⟩ := c3e p m u hat
  have hra := b8q p m u (by omega) hat
  have hrl := b1p m hm (by omega) hg p u (by omega) hat
  have hin := ld_in hg hled
  obtain ⟨hf1, hf2⟩ := c5n hm (by omega) hg p u hat
  have hal := b43 (ldD m (p.map Int.toNat)) (fun t ht => by have := hf1 t ht; omega) (by omega)
  have hsm := c5o hg hled
  have fin : Row Tryz.prog 7 [vT m, vIs p] [] (vLsB (.pv (.sl 6 ((ldD m (p.map Int.toNat)).map tc))) true) [] → Row Tryz.prog 3 [vT m, vIs p] [.lib LL] (vB true) [some (.lib LL)] := by
    intro hlo
    obtain ⟨D, hD⟩ : ∃ D, ldD m (p.map Int.toNat) = D := ⟨_, rfl⟩
    rw [hD] at hlo hrl hin hal
    clear hsm hled hat
    obtain ⟨ux, ul⟩ := u
    obtain ⟨mx, ml⟩ := m
    have hin : ux.k = 7 → ux.n < D.length := hin
    by_cases h7 : ux.k = 7
    · have h8 := hin h7
      have h9 : ¬ (D.length : Int) ≤ ux.n := by omega
      refine d7 Tryz.func3 rfl rfl (Nat.le_of_ble_eq_true rfl) ?_
      repeat' (first | refine b9 ?_ | refine b6 ?_ | refine a6 ?_ | refine b5 ?_ | refine e7 rfl ?_ | refine d9 rfl ?_ | ((first | refine b8 (fun K hK => ?_) | refine d3 e9 (fun K hK => ?_) | refine b7 (cp hla ?_) | refine a8 (dp hla ?_) | refine b7 (cp hrr ?_) | refine a8 (dp hrr ?_) | refine b7 (cp hlo ?_) | refine a8 (dp hlo ?_) | refine b7 (cp hle ?_) | refine a8 (dp hle ?_) | refine b7 (cp hra ?_) | refine a8 (dp hra ?_) | refine b7 (cp hrl ?_) | refine a8 (dp hrl ?_) | refine b7 (cp hal ?_) | refine a8 (dp hal ?_) | refine b7 (cb haw 0 ?_) | refine a8 (db haw 0 ?_) | fail); simp -implicitDefEqProofs [h100, h1, h7, h8, h9]) | refine hK _ ?_ | refine hK _ _ (by rfl) ?_ | fail)
      refine d6 (g7 ?_); simp -implicitDefEqProofs [s9, f6, f7] <;> try rfl
    · refine d7 Tryz.func3 rfl rfl (Nat.le_of_ble_eq_true rfl) ?_
      repeat' (first | refine b9 ?_ | refine b6 ?_ | refine a6 ?_ | refine b5 ?_ | refine e7 rfl ?_ | refine d9 rfl ?_ | ((first | refine b8 (fun K hK => ?_) | refine d3 e9 (fun K hK => ?_) | refine b7 (cp hla ?_) | refine a8 (dp hla ?_) | refine b7 (cp hrr ?_) | refine a8 (dp hrr ?_) | refine b7 (cp hlo ?_) | refine a8 (dp hlo ?_) | refine b7 (cp hle ?_) | refine a8 (dp hle ?_) | refine b7 (cp hra ?_) | refine a8 (dp hra ?_) | refine b7 (cp hrl ?_) | refine a8 (dp hrl ?_) | refine b7 (cp hal ?_) | refine a8 (dp hal ?_) | refine b7 (cb haw 0 ?_) | refine a8 (db haw 0 ?_) | fail); simp -implicitDefEqProofs [h100, h1, h7]) | refine hK _ ?_ | refine hK _ _ (by rfl) ?_ | fail)
      refine d6 (g7 ?_); simp -implicitDefEqProofs [s9, f6, f7] <;> try rfl
  by_cases hfn : ∃ i j r, p = i :: j :: r ∧ (m.kids.getD i.toNat z0T).lab.k = 33 ∧ j = 2
  · obtain ⟨i, j, r, rfl, h33, rfl⟩ := hfn
    obtain ⟨mx, ml⟩ := m
    obtain ⟨k, d, rfl, hd, h2⟩ := u2 hat
    have hgd : ml.getD k z0T = d := by simp [List.getD, hd]
    have h33 : (ml.getD ((k : Int)).toNat z0T).lab.k = 33 := h33
    rw [Int.toNat_natCast, hgd] at h33
    obtain ⟨he, hn⟩ := a9m hg (i := k) (d := d) hd
    obtain ⟨x, l⟩ := d
    obtain ⟨q, r', b, rfl, h35, h29, hp, -, -, hst⟩ := a82 (m := .mk mx ml) h33 he
    obtain ⟨qx, ql⟩ := q
    obtain ⟨v, hv, hu⟩ : ∃ v, [Tr.mk qx ql, r', b][(2 : Int).toNat]? = some v ∧ atO r v = some u := by
      obtain ⟨k2, v, e, hv, hu⟩ := u2 h2
      rw [e]
      exact ⟨v, hv, hu⟩
    cases hv
    have hlo := b4n (.mk mx ml) hm (by omega) k x qx ql r' b hd h33 (List.all_eq_true.2 hp) r u (by simp at h100; omega) hu
    refine fin ?_
    rw [← hsm]
    have e : ldP (.mk mx ml) (((k : Int) :: 2 :: r).map Int.toNat) = bwT (a01 (.mk mx ml)) (r.map Int.toNat) b (a79 ql) := by
      rw [List.map_cons, List.map_cons, Int.toNat_natCast]
      rw [b26, show (Tr.mk mx ml).kids = ml from rfl, hgd, if_pos ⟨h33, rfl⟩]
      show bwT _ _ b _ = _
      congr 1
      unfold b8h a79
      show (ql.filter _).map _ = (ql.map _).map _
      rw [List.filter_eq_self.2 (fun y hy => by
        have := hp y hy
        unfold j1 at this
        rw [Bool.and_eq_true] at this
        have := of_decide_eq_true this.2
        exact decide_eq_true (by omega)), List.map_map]
      rfl
    rw [e]
    exact hlo
  · have hn : ∀ i j r, p = i :: j :: r → ¬ ((m.kids.getD i.toNat z0T).lab.k = 33 ∧ j = 2) := fun i j r e h => hfn ⟨i, j, r, e, h.1, h.2⟩
    have hD : ldD m (p.map Int.toNat) = [] := by
      match p, hn with
      | [], _ => rfl
      | [i], _ => rfl
      | i :: j :: r, hn =>
        rw [List.map_cons, List.map_cons]
        rw [a2b]
        obtain ⟨mx, ml⟩ := m
        obtain ⟨k, d, rfl, hd, h2⟩ := u2 hat
        have := hn _ _ _ rfl
        obtain ⟨x, l⟩ := d
        obtain ⟨k2, v, rfl, hv, hu⟩ := u2 h2
        rw [if_neg (fun e => this ⟨by simpa using e.1, by have := e.2; simp at this; omega⟩)]
    rw [hD] at fin
    exact fin (b08 m p u (by omega) hat hn)
end Go.Proofs.YtbbkmijkllgfaaaGreatDoor.am
end
section
namespace Go.Proofs.YtbbkmijkllgfaaaGreatDoor.vt
open Go.Proofs.YtbbkmijkllgfaaaGreatDoor.am
set_option linter.unusedVariables false
structure SG where
  t : VT
  pl : Int
  er : Int
abbrev LR := List VT × Int × Int
noncomputable def c08 (x : Lab) (e : Int) : SG := ⟨z0T, x.f, e⟩
def dcl (ml : List VT) (s : ByteArray) : Option Nat := ml.findIdx? fun d => decide (d.lab.s = s)
def dclI (ml : List VT) (s : ByteArray) : Int := match dcl ml s with
  | some i => (i : Nat)
  | none => -1
def kndI (ml : List VT) (s : ByteArray) : Int := match dcl ml s with
  | some i => (ml.getD i z0T).lab.k
  | none => 0
def locS (L : List ByteArray) (s : ByteArray) : Option Nat := L.reverse.findIdx? fun a => decide (a = s)
noncomputable def namS (ml : List VT) (L : List ByteArray) (x : Lab) : SG := match locS L x.s with
  | some n => ⟨.mk ⟨7, (n : Nat), ⟨#[]⟩, x.f, x.t⟩ [], 0, 0⟩
  | none => if kndI ml x.s = 31 then ⟨.mk ⟨8, dclI ml x.s, ⟨#[]⟩, x.f, x.t⟩ [], 0, 0⟩ else if kndI ml x.s = 32 then ⟨.mk ⟨9, dclI ml x.s, ⟨#[]⟩, x.f, x.t⟩ [], 0, 0⟩ else c08 x 8
def b8c (L : List ByteArray) (y : VT) : List ByteArray := if y.lab.k = 20 ∨ y.lab.k = 21 then L ++ [y.lab.s] else L
def c1x (ml : List VT) (x : Lab) : Lab := ⟨x.k, if x.k = 16 ∨ x.k = 15 ∨ x.k = 4 then dclI ml x.s else x.n, if x.k = 13 ∨ x.k = 17 then x.s else ⟨#[]⟩, x.f, x.t⟩
def c61 (ml : List VT) (x : Lab) : Bool := (decide (x.k = 16) && !decide (kndI ml x.s = 33)) || ((decide (x.k = 15) || decide (x.k = 4)) && !decide (kndI ml x.s = 30))
def b4s (x : Lab) (L : List ByteArray) (i : Nat) (kn : List ByteArray) : List ByteArray := if x.k = 25 ∧ i = 2 then L ++ [x.s] else kn
def knxS (x : Lab) (kn : List ByteArray) (y : VT) : List ByteArray := if x.k = 29 then b8c kn y else kn
noncomputable def seqC (ml : List VT) (x : Lab) (L : List ByteArray) : Nat → List (VT × (List ByteArray → SG)) → List ByteArray → List VT → SG
  | _, [], _, acc => ⟨.mk (c1x ml x) acc, 0, 0⟩
  | i, p :: r, kn, acc => if (p.2 (b4s x L i kn)).er ≠ 0 then ⟨z0T, (p.2 (b4s x L i kn)).pl, (p.2 (b4s x L i kn)).er⟩ else seqC ml x L (i + 1) r (knxS x (b4s x L i kn) p.1) (acc ++ [(p.2 (b4s x L i kn)).t])
noncomputable def anyC (ml : List VT) (x : Lab) (l : List VT) (fs : List (List ByteArray → SG)) (L : List ByteArray) : SG :=
  if x.k = 19 then namS ml L x else if c61 ml x = true then c08 x 8 else seqC ml x L 0 (l.zip fs) L []
noncomputable def r8 (ml : List VT) (t : VT) : List ByteArray → SG := Tr.fold (anyC ml) t
noncomputable def b56 (ml : List VT) (x : Lab) (L : List ByteArray) : Nat → List VT → List ByteArray → List VT → SG
  | _, [], _, acc => ⟨.mk (c1x ml x) acc, 0, 0⟩
  | i, y :: r, kn, acc => if (r8 ml y (b4s x L i kn)).er ≠ 0 then ⟨z0T, (r8 ml y (b4s x L i kn)).pl, (r8 ml y (b4s x L i kn)).er⟩ else b56 ml x L (i + 1) r (knxS x (b4s x L i kn) y) (acc ++ [(r8 ml y (b4s x L i kn)).t])
theorem b88 (ml : List VT) (x : Lab) (L : List ByteArray) : ∀ (l : List VT) (i : Nat) (kn : List ByteArray) (acc : List VT), seqC ml x L i (l.zip (l.map (r8 ml))) kn acc = b56 ml x L i l kn acc
  | [], i, kn, acc => rfl
  | y :: r, i, kn, acc => by
    rw [List.map_cons, List.zip_cons_cons]
    unfold seqC b56
    dsimp only
    split
    · rfl
    · exact b88 ml x L r _ _ _
theorem a35 (ml : List VT) (x : Lab) (l : List VT) (L : List ByteArray) : r8 ml (.mk x l) L = if x.k = 19 then namS ml L x else if c61 ml x = true then c08 x 8 else b56 ml x L 0 l L [] := by
  have h : r8 ml (.mk x l) L = anyC ml x l (l.map (r8 ml)) L := by unfold r8; rw [Tr.fold_mk]
  rw [h]
  show (if x.k = 19 then namS ml L x else if c61 ml x = true then c08 x 8 else seqC ml x L 0 (l.zip (l.map (r8 ml))) L []) = _
  rw [b88]
theorem b89 (ml : List VT) (x : Lab) (L : List ByteArray) : ∀ (l : List VT) (i : Nat) (kn : List ByteArray) (acc : List VT), (b56 ml x L i l kn acc).er = 0 → (b56 ml x L i l kn acc).pl = 0
  | [], i, kn, acc, _ => rfl
  | y :: r, i, kn, acc, h => by
    unfold b56 at h ⊢
    split
    · rename_i c; rw [if_pos c] at h; exact absurd h c
    · rename_i c; rw [if_neg c] at h; exact b89 ml x L r _ _ _ h
theorem c3d (ml : List VT) (t : VT) (L : List ByteArray) (h : (r8 ml t L).er = 0) : (r8 ml t L).pl = 0 := by
  obtain ⟨x, l⟩ := t
  rw [a35] at h ⊢
  split
  · rename_i c
    rw [if_pos c] at h
    unfold namS at h ⊢
    split
    · rfl
    · rename_i e
      rw [e] at h
      dsimp only at h
      split
      · rfl
      · rename_i k1
        rw [if_neg k1] at h
        split
        · rfl
        · rename_i k2; rw [if_neg k2] at h; exact absurd (show (8 : Int) = 0 from h) (by decide)
  · rename_i c
    rw [if_neg c] at h
    split
    · rename_i d; rw [if_pos d] at h; exact absurd (show (8 : Int) = 0 from h) (by decide)
    · rename_i d; rw [if_neg d] at h; exact b89 ml x L _ _ _ _ h
noncomputable def a2o (ml : List VT) (L : List ByteArray) : List VT → LR
  | [] => ([], 0, 0)
  | y :: r => if (r8 ml y L).er ≠ 0 then ([], (r8 ml y L).pl, (r8 ml y L).er) else if (a2o ml L r).2.2 ≠ 0 then ([], (a2o ml L r).2) else ((r8 ml y L).t :: (a2o ml L r).1, 0, 0)
theorem b78 (ml : List VT) (L : List ByteArray) : ∀ l : List VT, (a2o ml L l).2.2 = 0 → (a2o ml L l).2.1 = 0
  | [], _ => rfl
  | y :: r, h => by
    unfold a2o at h ⊢
    split
    · rename_i c; rw [if_pos c] at h; exact absurd h c
    · rename_i c; rw [if_neg c] at h
      split
      · rename_i d; rw [if_pos d] at h; exact absurd h d
      · rfl
noncomputable def blkS (ml : List VT) : List ByteArray → List VT → LR
  | _, [] => ([], 0, 0)
  | L, y :: r => if (r8 ml y L).er ≠ 0 then ([], (r8 ml y L).pl, (r8 ml y L).er) else if (blkS ml (b8c L y) r).2.2 ≠ 0 then ([], (blkS ml (b8c L y) r).2) else ((r8 ml y L).t :: (blkS ml (b8c L y) r).1, 0, 0)
noncomputable def b0a (x : Lab) (acc : List VT) (g : LR) : SG := if g.2.2 ≠ 0 then ⟨z0T, g.2.1, g.2.2⟩ else ⟨.mk x (acc ++ g.1), 0, 0⟩
theorem a7s (ml : List VT) (x : Lab) (L : List ByteArray) (h29 : x.k ≠ 29) : ∀ (l : List VT) (i : Nat) (kn : List ByteArray) (acc : List VT), (x.k = 25 → 3 ≤ i) → b56 ml x L i l kn acc = b0a (c1x ml x) acc (a2o ml kn l)
  | [], i, kn, acc, h => by unfold b56 a2o b0a; simp
  | y :: r, i, kn, acc, h => by
    have e1 : b4s x L i kn = kn := by
      unfold b4s
      rw [if_neg]
      rintro ⟨a, b⟩
      have := h a
      omega
    have e2 : ∀ k, knxS x k y = k := fun k => by unfold knxS; rw [if_neg h29]
    unfold b56 a2o
    rw [e1, e2]
    by_cases c : (r8 ml y kn).er = 0
    · rw [if_neg (by simpa using c), if_neg (by simpa using c), a7s ml x L h29 r (i + 1) kn _ (fun a => by have := h a; omega)]
      unfold b0a
      by_cases d : (a2o ml kn r).2.2 = 0 <;> simp [d]
    · rw [if_pos c, if_pos c]; unfold b0a; simp [c]
noncomputable def keepS (keep : Bool) (g : VT) (s : ByteArray) : VT := if keep = true then .mk { g.lab with s := s } g.kids else g
def b2z (seen : List ByteArray) (s : ByteArray) : Bool := seen.any fun a => decide (a = s)
noncomputable def b3e (ml : List VT) (keep : Bool) (seen : List ByteArray) : List VT → LR
  | [] => ([], 0, 0)
  | y :: r => if b2z seen y.lab.s = true then ([], y.lab.f, 9) else if (r8 ml y []).er ≠ 0 then ([], (r8 ml y []).pl, (r8 ml y []).er) else if (b3e ml keep (seen ++ [y.lab.s]) r).2.2 ≠ 0 then ([], (b3e ml keep (seen ++ [y.lab.s]) r).2) else (keepS keep (r8 ml y []).t y.lab.s :: (b3e ml keep (seen ++ [y.lab.s]) r).1, 0, 0)
noncomputable def fnSc (ml : List VT) (x : Lab) (p : Lab) (pl : List VT) (r b : VT) : SG :=
  if (b3e ml false [] pl).2.2 ≠ 0 then ⟨z0T, (b3e ml false [] pl).2.1, (b3e ml false [] pl).2.2⟩
  else if (r8 ml r []).er ≠ 0 then ⟨z0T, (r8 ml r []).pl, (r8 ml r []).er⟩
  else if (r8 ml b (pl.map (·.lab.s))).er ≠ 0 then ⟨z0T, (r8 ml b (pl.map (·.lab.s))).pl, (r8 ml b (pl.map (·.lab.s))).er⟩
  else ⟨.mk ⟨x.k, x.n, ⟨#[]⟩, x.f, x.t⟩ [.mk ⟨p.k, 0, ⟨#[]⟩, p.f, p.t⟩ (b3e ml false [] pl).1, (r8 ml r []).t, (r8 ml b (pl.map (·.lab.s))).t], 0, 0⟩
noncomputable def a0y (ml : List VT) (t : VT) : SG :=
  if t.lab.k = 30 then b0a ⟨t.lab.k, t.lab.n, ⟨#[]⟩, t.lab.f, t.lab.t⟩ [] (b3e ml true [] t.kids)
  else if t.lab.k = 33 then fnSc ml t.lab (t.kids.getD 0 z0T).lab (t.kids.getD 0 z0T).kids (t.kids.getD 1 z0T) (t.kids.getD 2 z0T)
  else r8 ml t []
noncomputable def a0f (ml : List VT) : List VT → LR
  | [] => ([], 0, 0)
  | y :: r => if (a0y ml y).er ≠ 0 then ([], (a0y ml y).pl, (a0y ml y).er) else if (a0f ml r).2.2 ≠ 0 then ([], (a0f ml r).2) else ((a0y ml y).t :: (a0f ml r).1, 0, 0)
def a5f (seen : List ByteArray) : List VT → Option Int
  | [] => none
  | y :: r => if b2z seen y.lab.s = true then some y.lab.f else a5f (seen ++ [y.lab.s]) r
noncomputable def b46 (x : Lab) (ml : List VT) : SG := match a5f [] ml with
  | some f => ⟨z0T, f, 9⟩
  | none => b0a ⟨x.k, x.n, ⟨#[]⟩, x.f, x.t⟩ [] (a0f ml ml)
theorem a02 (ml : List VT) (L : List ByteArray) (y : VT) : ∀ l : List VT, a2o ml L (l ++ [y]) = if (a2o ml L l).2.2 ≠ 0 then ([], (a2o ml L l).2) else if (r8 ml y L).er ≠ 0 then ([], (r8 ml y L).pl, (r8 ml y L).er) else ((a2o ml L l).1 ++ [(r8 ml y L).t], 0, 0)
  | [] => by
    simp only [List.nil_append, a2o]
    by_cases c : (r8 ml y L).er = 0 <;> simp [c]
  | z :: l => by
    rw [List.cons_append]
    unfold a2o
    rw [a02 ml L y l]
    by_cases a : (r8 ml z L).er = 0
    · by_cases b : (a2o ml L l).2.2 = 0
      · by_cases c : (r8 ml y L).er = 0 <;> simp [a, b, c]
      · simp [a, b]
    · simp [a]
def brgS (L : List ByteArray) (l : List VT) : List ByteArray := l.foldl b8c L
theorem a5y (ml : List VT) (y : VT) : ∀ l : List VT, a0f ml (l ++ [y]) = if (a0f ml l).2.2 ≠ 0 then ([], (a0f ml l).2) else if (a0y ml y).er ≠ 0 then ([], (a0y ml y).pl, (a0y ml y).er) else ((a0f ml l).1 ++ [(a0y ml y).t], 0, 0)
  | [] => by
    simp only [List.nil_append, a0f]
    by_cases c : (a0y ml y).er = 0 <;> simp [c]
  | z :: l => by
    rw [List.cons_append]
    unfold a0f
    rw [a5y ml y l]
    by_cases a : (a0y ml z).er = 0
    · by_cases b : (a0f ml l).2.2 = 0
      · by_cases c : (a0y ml y).er = 0 <;> simp [a, b, c]
      · simp [a, b]
    · simp [a]
theorem a9v (y : VT) : ∀ (l : List VT) (seen : List ByteArray), a5f seen (l ++ [y]) = match a5f seen l with
    | some f => some f
    | none => if b2z (seen ++ l.map (·.lab.s)) y.lab.s = true then some y.lab.f else none
  | [], seen => by simp [a5f]
  | z :: l, seen => by
    rw [List.cons_append]
    unfold a5f
    rw [a9v y l, List.map_cons, show seen ++ z.lab.s :: l.map (·.lab.s) = (seen ++ [z.lab.s]) ++ l.map (·.lab.s) by simp]
    generalize b2z (seen ++ [z.lab.s] ++ l.map (·.lab.s)) y.lab.s = e
    by_cases d : b2z seen z.lab.s = true <;> simp [d]
end Go.Proofs.YtbbkmijkllgfaaaGreatDoor.vt
end
section
namespace Go.Proofs.YtbbkmijkllgfaaaGreatDoor.am
open Go.ChangeShapes Go.WideShapes Go.ChangeAt Go.RowKit
open vt
set_option linter.unusedVariables false
set_option linter.unusedSimpArgs false
theorem td_errno13 : td Tryz.prog 35 = some ⟨false, 1, 8, [.lit (.int .i64 0)], [], (.int .i64)⟩ := Eq.trans (by kernel_rfl) (Eq.refl _)
theorem td_strs13 : td Tryz.prog 77 = some ⟨false, 1, 24, [.nilS], [], (.slice 9)⟩ := Eq.trans (by kernel_rfl) (Eq.refl _)
attribute [simp] td_errno13 td_strs13
theorem b2g {l : List VT} {s : ByteArray} : dcl l s = none ↔ b2z (l.map (·.lab.s)) s = false := by
  unfold dcl b2z
  simp [List.findIdx?_eq_none_iff]
abbrev wsS (W : List ByteArray) : List (List PV) := W.map fun s => [Sx s]
theorem b36 (x : Lab) (a : List VT) (g : LR) : (b0a x a g).er = g.2.2 := by
  unfold b0a
  by_cases h : g.2.2 = 0 <;> simp [h]
theorem b97 (x : Lab) (a : List VT) (g : LR) (h : g.2.2 = 0 → g.2.1 = 0) : (b0a x a g).pl = g.2.1 := by
  unfold b0a
  by_cases c : g.2.2 = 0
  · simp [c, h c]
  · simp [c]
theorem wrp_t (x : Lab) (a : List VT) (g : LR) (h : g.2.2 = 0) : (b0a x a g).t = .mk x (a ++ g.1) := by
  unfold b0a
  simp [h]
theorem a9w (ml : List VT) (k : Nat) (y : VT) (hy : ml[k]? = some y) (h : a5f [] (ml.take k) = none) : a5f [] (ml.take (k + 1)) = if b2z ((ml.take k).map (·.lab.s)) y.lab.s = true then some y.lab.f else none := by
  rw [show ml.take (k + 1) = ml.take k ++ [y] by rw [List.take_add_one, hy]; rfl, a9v, h]
  rfl
theorem b3v {f : Int} : ∀ (l r : List VT) (seen : List ByteArray), a5f seen l = some f → a5f seen (l ++ r) = some f
  | [], r, seen, h => by simp [a5f] at h
  | y :: l, r, seen, h => by
    rw [List.cons_append]
    unfold a5f at h ⊢
    split
    · rename_i c; rw [if_pos c] at h; exact h
    · rename_i c; rw [if_neg c] at h; exact b3v l r _ h
end Go.Proofs.YtbbkmijkllgfaaaGreatDoor.am
end
section
namespace Go.Proofs.YtbbkmijkllgfaaaGreatDoor.am
open Go.ChangeShapes Go.WideShapes Go.ChangeAt Go.RowKit
open vt
set_option linter.unusedVariables false
set_option linter.unusedSimpArgs false
theorem td_scopr : td Tryz.prog 79 = some ⟨true, 5, 72, [.nilS, .lit (.map none), .nilS, .lit (.int .i64 0), .lit (.int .i64 0)], [(0, 1, false), (1, 1, false), (2, 1, false), (3, 1, false), (4, 1, false)], .struct⟩ := Eq.trans (by kernel_rfl) (Eq.refl _)
theorem td_pscopr : td Tryz.prog 75 = some ⟨false, 1, 8, [.lit (.pointer none)], [], (.pointer 79)⟩ := Eq.trans (by kernel_rfl) (Eq.refl _)
theorem td_msi : td Tryz.prog 76 = some ⟨false, 1, 8, [.lit (.map none)], [], (.map 9 3)⟩ := Eq.trans (by kernel_rfl) (Eq.refl _)
attribute [simp] td_scopr td_pscopr td_msi
def plF : Nat → List VT → List (Value × PT)
  | _, [] => []
  | k, d :: r => (.string d.lab.s, .c (I (k : Nat))) :: plF (k + 1) r
theorem b3c (s : ByteArray) : ∀ (l : List VT) (k : Nat), a4m (plF k l) (.string s) = (dcl l s).map fun i => .c (I ((k + i : Nat) : Int))
  | [], k => rfl
  | d :: r, k => by
    unfold plF a4m
    have ih := b3c s r (k + 1)
    by_cases h : s = d.lab.s
    · subst h
      simp [a4k, dcl, List.findIdx?_cons]
    · have h' : ¬ d.lab.s = s := fun e => h e.symm
      simp only [a4k, h, decide_false, Bool.false_eq_true, if_false, ih]
      simp only [dcl, List.findIdx?_cons, h', decide_false, Bool.false_eq_true, if_false, Option.map_map]
      congr 1
      funext i
      simp only [Function.comp]
      congr 2
      omega
theorem b8k (s : ByteArray) (x : PT) : ∀ (l : List (Value × PT)), a4m l (.string s) = none → b1e l (.string s) x = l ++ [(.string s, x)]
  | [], _ => rfl
  | p :: l, h => by
    unfold a4m at h
    unfold b1e
    split at h
    · cases h
    · rename_i c; rw [if_neg c, b8k s x l h]; rfl
theorem b3d (d : VT) : ∀ (l : List VT) (k : Nat), plF k (l ++ [d]) = plF k l ++ [(.string d.lab.s, .c (I ((k + l.length : Nat) : Int)))]
  | [], k => rfl
  | y :: l, k => by
    rw [List.cons_append]
    unfold plF
    rw [b3d d l, List.cons_append, List.length_cons, show k + 1 + l.length = k + (l.length + 1) by omega]
noncomputable abbrev bxS (i m : Nat) (ml : List VT) (n : Nat) (a e : Int) : AO := .box [.pv (.sl 6 (ml.map tc)), .map m, .vw i 1 0 n, .pv (I a), .pv (I e)]
abbrev arS (E : List ByteArray) : AO := .arr 9 1 (wsS E)
abbrev mpS (ml : List VT) : AO := .mp none (plF 0 ml)
abbrev vPt : AV := .v (.c (.ptr 0 0))
section
variable {P : Program} {N nb : Nat} {st : St} {Q : Exit → St → Prop}
theorem cgS {f : Nat} {dst : Option Nat} {first caps : List Cap} {args cargs : List AV} {ml ml' : List VT} {n n' : Nat} {a a' e e' : Int} {o1 o2 : AO} {ch' : List (Option AO)} {res : AV} {K : St → Prop} (hrow : Row P f cargs [bxS 1 2 ml n a e, o1, o2] res ch') (b : Nat) {i m : Nat} (hb : hlk st.hp b = some (bxS i m ml' n' a' e')) (hk : K ((st.wr (wrs (a0b [b, i, m] 3 st.nx) 0 ch') 8).put dst (res.ren (a0b [b, i, m] 3 st.nx)))) (hfit : y9 3 (fun k => [b, i, m].getD k 0) cargs (first.map a1l ++ args ++ caps.map a1l) := by first | (simp [*]; done) | fail) (ho : a3e (hlk st.hp) 3 (fun k => [b, i, m].getD k 0) ([bxS 1 2 ml n a e, o1, o2].map some) [b, i, m] := by first | (simp [*]; done) | fail) (hnd : [b, i, m].Nodup := by first | decide | (simp; done) | fail) (hl : ch'.length ≤ 11 := by first | decide | (simp; done) | fail) (hl' : 3 ≤ ch'.length := by first | decide | (simp; done) | fail) (hd : dok N dst = true := by rfl) :
    a32 P N dst (.v (.c (.fn (.func f) first caps))) args st K := cg hrow [b, i, m] hk hfit ho hnd hl hl' hd
theorem dgS {f : Nat} {dst : Option Nat} {first caps : List Cap} {args cargs : List AV} {ml ml' : List VT} {n n' : Nat} {a a' e e' : Int} {o1 o2 : AO} {ch' : List (Option AO)} {res : AV} {K : List Nat → List Nat → St → Prop} (hrow : Row P f cargs [bxS 1 2 ml n a e, o1, o2] res ch') (b : Nat) {i m : Nat} (hb : hlk st.hp b = some (bxS i m ml' n' a' e')) (hk : K [b, i, m] ((wrs (a0b [b, i, m] 3 st.nx) 0 ch').map (·.1)) ((st.wr (wrs (a0b [b, i, m] 3 st.nx) 0 ch') 8).put dst (res.ren (a0b [b, i, m] 3 st.nx)))) (hfit : y9 3 (fun k => [b, i, m].getD k 0) cargs (first.map a1l ++ args ++ caps.map a1l) := by first | (simp [*]; done) | fail) (ho : a3e (hlk st.hp) 3 (fun k => [b, i, m].getD k 0) ([bxS 1 2 ml n a e, o1, o2].map some) [b, i, m] := by first | (simp [*]; done) | fail) (hnd : [b, i, m].Nodup := by first | decide | (simp; done) | fail) (hl : ch'.length ≤ 11 := by first | decide | (simp; done) | fail) (hl' : 3 ≤ ch'.length := by first | decide | (simp; done) | fail) (hd : dok N dst = true := by rfl) :
    a31 P N dst (.v (.c (.fn (.func f) first caps))) args st K := dg hrow [b, i, m] hk hfit ho hnd hl hl' hd
theorem b7n (X : List Nat) {rs : List ResultVar} {res : AV} {ch' : List (Option AO)} {ml : List VT} {n i : Nat} {a e : Int} (hb : hlk st.hp 0 = some (bxS i 2 ml n a e)) (h : m9 P rs res ch' (0 :: 1 :: 2 :: i :: X) st) (hnd : (0 :: 1 :: 2 :: i :: X).Nodup := by first | decide | (simp; done)) (ht : (0 :: 1 :: 2 :: i :: X).take nb = List.range nb := by rfl) (hl : nb ≤ ch'.length := by first | decide | (simp; done)) : Fin P nb rs res ch' .ret st := j0 (0 :: 1 :: 2 :: i :: X) h hnd ht hl
theorem c42 {tm : List (Nat × AV)} {os : List (Option AO)} {ml : List VT} {n i : Nat} {a e : Int} (X : List Nat) (hw : hlk st.hp 0 = some (bxS i 2 ml n a e)) (ht : covT st.tm os.length (fun k => (0 :: 1 :: 2 :: i :: X).getD k 0) tm) (hc : a3e (hlk st.hp) os.length (fun k => (0 :: 1 :: 2 :: i :: X).getD k 0) os (0 :: 1 :: 2 :: i :: X)) (hnd : (0 :: 1 :: 2 :: i :: X).Nodup) (hb : (0 :: 1 :: 2 :: i :: X).take nb = List.range nb) (hnb : nb ≤ os.length) : Cov N nb st (x5 tm os) := e8 (0 :: 1 :: 2 :: i :: X) ht hc hnd hb hnb
end
end Go.Proofs.YtbbkmijkllgfaaaGreatDoor.am
end
