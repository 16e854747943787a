import Derived.IntWalk
import Derived.Test.YthkfdheoakbfnaaGreatPkF4
import Derived.Test.YthkfdheoakbfnaaGreatPkF3
set_option maxRecDepth 100000
set_option maxHeartbeats 4000000
section
namespace Go.Proofs.YthkfdheoakbfnaaGreat.am
open Go.ChangeShapes Go.WideShapes Go.ChangeAt Go.RowKit
open vt
set_option linter.unusedVariables false
set_option linter.unusedSimpArgs false
theorem a0a (t : VT) : t.size ≤ 1000000 → ∀ u : VT, u.size ≤ 1000000 → Row Tryz.prog 25 [vT t, vT u] [] (vB (same t u)) [] := by
  induction t using Tr.ind with
  | h x l ih =>
  intro hsz u hsu
  obtain ⟨y, m⟩ := u
  have hlen := Tr.len_size (x := x) (l := l)
  rw [show same (.mk x l) (.mk y m) = _ from a87 vt.pS x y l m]
  refine f6 Tryz.func25 rfl rfl (Nat.le_of_ble_eq_true rfl) ?_
  by_cases hk : x.k = y.k; rotate_left
  · repeat (first | refine d4 ?_ | refine b8 ?_ | refine b7 ?_ | refine b9 ?_ | refine f5 rfl ?_ | refine d8 rfl ?_ | ((first | refine c5 (fun K hK => ?_) | refine d5 f8 (fun K hK => ?_) | fail); simp -implicitDefEqProofs [hk]; first | refine hK _ ?_ | refine hK _ _ (by rfl) ?_ | fail) | fail)
    refine d7 (d6 ?_); simp -implicitDefEqProofs [g8, f9, g7, hk, vt.pS] <;> try rfl
  by_cases hn : x.n = y.n; rotate_left
  · repeat (first | refine d4 ?_ | refine b8 ?_ | refine b7 ?_ | refine b9 ?_ | refine f5 rfl ?_ | refine d8 rfl ?_ | ((first | refine c5 (fun K hK => ?_) | refine d5 f8 (fun K hK => ?_) | fail); simp -implicitDefEqProofs [hk, hn]; first | refine hK _ ?_ | refine hK _ _ (by rfl) ?_ | fail) | fail)
    refine d7 (d6 ?_); simp -implicitDefEqProofs [g8, f9, g7, hk, hn, vt.pS] <;> try rfl
  by_cases hs : x.s = y.s; rotate_left
  · repeat (first | refine d4 ?_ | refine b8 ?_ | refine b7 ?_ | refine b9 ?_ | refine f5 rfl ?_ | refine d8 rfl ?_ | ((first | refine c5 (fun K hK => ?_) | refine d5 f8 (fun K hK => ?_) | fail); simp -implicitDefEqProofs [hk, hn, hs]; first | refine hK _ ?_ | refine hK _ _ (by rfl) ?_ | fail) | fail)
    refine d7 (d6 ?_); simp -implicitDefEqProofs [g8, f9, g7, hk, hn, hs, vt.pS] <;> try rfl
  by_cases hm : l.length = m.length; rotate_left
  · have hm' : ¬ (l.length : Int) = (m.length : Int) := by omega
    repeat (first | refine d4 ?_ | refine b8 ?_ | refine b7 ?_ | refine b9 ?_ | refine f5 rfl ?_ | refine d8 rfl ?_ | ((first | refine c5 (fun K hK => ?_) | refine d5 f8 (fun K hK => ?_) | fail); simp -implicitDefEqProofs [hk, hn, hs, hm, hm']; first | refine hK _ ?_ | refine hK _ _ (by rfl) ?_ | fail) | fail)
    refine d7 (d6 ?_); simp -implicitDefEqProofs [g8, f9, g7, hk, hn, hs, hm, vt.pS] <;> try rfl
  repeat (first | refine d4 ?_ | refine b8 ?_ | refine b7 ?_ | refine b9 ?_ | refine f5 rfl ?_ | refine d8 rfl ?_ | ((first | refine c5 (fun K hK => ?_) | refine d5 f8 (fun K hK => ?_) | fail); simp -implicitDefEqProofs [hk, hn, hs, hm]; first | refine hK _ ?_ | refine hK _ _ (by rfl) ?_ | fail) | fail)
  refine l7 (ι := Nat) (fun k => s7 [(2, .v (.c (.ptr 0 0))), (3, .v (.c (.ptr 1 0))), (5, vI (k : Nat))] [some (.box (ta (.mk x l))), some (.box (ta (.mk y m)))]) (fun k => k ≤ l.length ∧ a0v (eqv vt.pS) l m k = true) (fun k => l.length - k) 0 ⟨Nat.zero_le _, a07 _ _ _⟩ (f7 [0, 1] (by simp -implicitDefEqProofs [hk, hn, hs, hm]) (by simp -implicitDefEqProofs [hk, hn, hs, hm]) (by decide) rfl (by simp)) (fun Z hI k hkz => ?_)
  obtain ⟨hkl', hz⟩ := hkz
  by_cases hkl : k < l.length; rotate_left
  · have : k = l.length := by omega
    subst this
    rw [show (vt.pS x y && decide (l.length = m.length) && a0v (eqv vt.pS) l m l.length) = true by rw [hz]; simp [vt.pS, hk, hn, hs, hm]]
    repeat (first | refine d4 ?_ | refine b8 ?_ | refine b7 ?_ | refine b9 ?_ | refine f5 rfl ?_ | refine d8 rfl ?_ | ((first | refine c5 (fun K hK => ?_) | refine d5 f8 (fun K hK => ?_) | fail); simp -implicitDefEqProofs; first | refine hK _ ?_ | refine hK _ _ (by rfl) ?_ | fail) | fail)
    refine d7 (d6 ?_); simp -implicitDefEqProofs [g8, f9, g7] <;> try rfl
  have hkm : k < m.length := by omega
  obtain ⟨⟨ax, al⟩, ha⟩ : ∃ a, l[k]? = some a := ⟨_, List.getElem?_eq_getElem hkl⟩
  obtain ⟨⟨bx, bl⟩, hb⟩ : ∃ a, m[k]? = some a := ⟨_, List.getElem?_eq_getElem hkm⟩
  have ha' := (List.getElem?_eq_some_iff.1 ha).2
  have hb' := (List.getElem?_eq_some_iff.1 hb).2
  have hsz1 := Tr.size_at (x := x) ha
  have hsz2 := Tr.size_at (x := y) hb
  have w2 : IntKind.i64.wrap ((k : Nat) + 1 : Int) = (k : Nat) + 1 := k9 _ (by omega) (by omega)
  have hzs := t6 (f := eqv vt.pS) ha hb
  repeat (first | refine d4 ?_ | refine b8 ?_ | refine b7 ?_ | refine b9 ?_ | refine f5 rfl ?_ | refine d8 rfl ?_ | ((first | refine c5 (fun K hK => ?_) | refine d5 f8 (fun K hK => ?_) | fail); simp -implicitDefEqProofs [hkl]; first | refine hK _ ?_ | refine hK _ _ (by rfl) ?_ | fail) | fail)
  refine d5 f8 (fun K hK => ?_); simp -implicitDefEqProofs [hkl, hkm, ha, ha', hb, hb']
  refine a8 (a2x (ih _ (List.mem_of_getElem? ha) (by omega) (.mk bx bl) (by omega)) (by simp) (fun _ => rfl) rfl ?_)
  simp -implicitDefEqProofs
  refine hK _ _ (by rfl) ?_
  refine u5 rfl (fun hb => ?_) (fun hb => ?_)
  · have hf : same (.mk ax al) (.mk bx bl) = false := by simpa using hb
    repeat (first | refine d4 ?_ | refine b8 ?_ | refine b7 ?_ | refine b9 ?_ | refine f5 rfl ?_ | refine d8 rfl ?_ | ((first | refine c5 (fun K hK => ?_) | refine d5 f8 (fun K hK => ?_) | fail); simp -implicitDefEqProofs; first | refine hK _ ?_ | refine hK _ _ (by rfl) ?_ | fail) | fail)
    have e : a0v (eqv vt.pS) l m l.length = false := by
      have := a2q (l.length - (k + 1)) (show a0v (eqv vt.pS) l m (k + 1) = false by rw [hzs, hz]; simpa using hf)
      rwa [show k + 1 + (l.length - (k + 1)) = l.length by omega] at this
    refine d7 (d6 ?_); simp -implicitDefEqProofs [g8, f9, g7, e] <;> try rfl
  · have hf : same (.mk ax al) (.mk bx bl) = true := by simpa using hb
    repeat (first | refine d4 ?_ | refine b8 ?_ | refine b7 ?_ | refine b9 ?_ | refine f5 rfl ?_ | refine d8 rfl ?_ | ((first | refine c5 (fun K hK => ?_) | refine d5 f8 (fun K hK => ?_) | fail); simp -implicitDefEqProofs [w2]; first | refine hK _ ?_ | refine hK _ _ (by rfl) ?_ | fail) | fail)
    refine ⟨k + 1, ⟨by omega, by rw [hzs, hz]; simpa using hf⟩, (by dsimp only; omega), ?_⟩
    rw [hI]; exact f7 [0, 1] (by simp -implicitDefEqProofs) (by simp -implicitDefEqProofs) (by decide) rfl (by simp)
theorem b9z (f g : Fc) (hf : okF f) (hg : okF g) : Row Tryz.prog 14 [vF f, vF g] [] (vB (r7 f g)) [] := by
  obtain ⟨fn, fp, ⟨frx, frl⟩, fd⟩ := f
  obtain ⟨gn, gp, ⟨grx, grl⟩, gd⟩ := g
  obtain ⟨f1, f2, f3⟩ := hf
  obtain ⟨g1, g2, g3⟩ := hg
  dsimp only at f1 f2 f3 g1 g2 g3
  have h := a0a (.mk frx frl) f3 (.mk grx grl) g3
  refine f6 Tryz.func14 rfl rfl (Nat.le_of_ble_eq_true rfl) ?_
  by_cases hl : fp.length = gp.length; rotate_left
  · have hl' : ¬ (fp.length : Int) = gp.length := by omega
    repeat (first | refine d4 ?_ | refine b8 ?_ | refine b7 ?_ | refine b9 ?_ | refine f5 rfl ?_ | refine d8 rfl ?_ | ((first | refine c5 (fun K hK => ?_) | refine d5 f8 (fun K hK => ?_) | fail); simp -implicitDefEqProofs [hl, hl']; first | refine hK _ ?_ | refine hK _ _ (by rfl) ?_ | fail) | fail)
    refine d7 (d6 ?_); simp -implicitDefEqProofs [g8, f9, g7, r7, hl] <;> try rfl
  by_cases hr : same (.mk frx frl) (.mk grx grl) = true; rotate_left
  · have hr : same (.mk frx frl) (.mk grx grl) = false := by simpa using hr
    rw [hr] at h
    repeat' (first | refine d4 ?_ | refine b8 ?_ | refine b7 ?_ | refine b9 ?_ | refine f5 rfl ?_ | refine d8 rfl ?_ | ((first | refine c5 (fun K hK => ?_) | refine d5 f8 (fun K hK => ?_) | refine a9 (cp h ?_) | refine a8 (dp h ?_) | fail); simp -implicitDefEqProofs [hl]) | refine hK _ ?_ | refine hK _ _ (by rfl) ?_ | fail)
    refine d7 (d6 ?_); simp -implicitDefEqProofs [g8, f9, g7, r7, hr] <;> try rfl
  rw [hr] at h
  repeat' (first | refine d4 ?_ | refine b8 ?_ | refine b7 ?_ | refine b9 ?_ | refine f5 rfl ?_ | refine d8 rfl ?_ | ((first | refine c5 (fun K hK => ?_) | refine d5 f8 (fun K hK => ?_) | refine a9 (cp h ?_) | refine a8 (dp h ?_) | fail); simp -implicitDefEqProofs [hl]) | refine hK _ ?_ | refine hK _ _ (by rfl) ?_ | fail)
  refine l7 (ι := Nat) (fun k => s7 [(2, .v (.c (.ptr 0 0))), (3, .v (.c (.ptr 1 0))), (5, vI (k : Nat))] [some (.box ((fcc ⟨fn, fp, .mk frx frl, fd⟩).map .pv)), some (.box ((fcc ⟨gn, gp, .mk grx grl, gd⟩).map .pv))]) (fun k => k ≤ fp.length ∧ a0v same fp gp k = true) (fun k => fp.length - k) 0 ⟨Nat.zero_le _, a07 _ _ _⟩ (f7 [0, 1] (by simp -implicitDefEqProofs [hl]) (by simp -implicitDefEqProofs [hl]) (by decide) rfl (by simp)) (fun Z hI k hkz => ?_)
  obtain ⟨hkl', hz⟩ := hkz
  by_cases hkl : k < fp.length; rotate_left
  · have : k = fp.length := by omega
    subst this
    have e : r7 ⟨fn, fp, .mk frx frl, fd⟩ ⟨gn, gp, .mk grx grl, gd⟩ = true := by unfold r7; rw [hz, hr]; simp [hl]
    rw [e]
    repeat (first | refine d4 ?_ | refine b8 ?_ | refine b7 ?_ | refine b9 ?_ | refine f5 rfl ?_ | refine d8 rfl ?_ | ((first | refine c5 (fun K hK => ?_) | refine d5 f8 (fun K hK => ?_) | fail); simp -implicitDefEqProofs; first | refine hK _ ?_ | refine hK _ _ (by rfl) ?_ | fail) | fail)
    refine d7 (d6 ?_); simp -implicitDefEqProofs [g8, f9, g7] <;> try rfl
  have hkm : k < gp.length := by omega
  obtain ⟨⟨ax, al⟩, ha⟩ : ∃ a, fp[k]? = some a := ⟨_, List.getElem?_eq_getElem hkl⟩
  obtain ⟨⟨bx, bl⟩, hb⟩ : ∃ a, gp[k]? = some a := ⟨_, List.getElem?_eq_getElem hkm⟩
  have ha' := (List.getElem?_eq_some_iff.1 ha).2
  have hb' := (List.getElem?_eq_some_iff.1 hb).2
  have w2 : IntKind.i64.wrap ((k : Nat) + 1 : Int) = (k : Nat) + 1 := k9 _ (by omega) (by omega)
  have hzs := t6 (f := same) ha hb
  have hc := a0a (.mk ax al) (f2 _ (List.mem_of_getElem? ha)) (.mk bx bl) (g2 _ (List.mem_of_getElem? hb))
  by_cases hs : same (.mk ax al) (.mk bx bl) = true
  · rw [hs] at hc
    clear h
    repeat' (first | refine d4 ?_ | refine b8 ?_ | refine b7 ?_ | refine b9 ?_ | refine f5 rfl ?_ | refine d8 rfl ?_ | ((first | refine c5 (fun K hK => ?_) | refine d5 f8 (fun K hK => ?_) | refine a9 (cp hc ?_) | refine a8 (dp hc ?_) | fail); simp -implicitDefEqProofs [hkl, hkm, ha, ha', hb, hb', w2]) | refine hK _ ?_ | refine hK _ _ (by rfl) ?_ | fail)
    refine ⟨k + 1, ⟨by omega, by rw [hzs, hz, hs]; rfl⟩, (by dsimp only; omega), ?_⟩
    rw [hI]; exact f7 [0, 1] (by simp -implicitDefEqProofs) (by simp -implicitDefEqProofs) (by decide) rfl (by simp)
  · have hs : same (.mk ax al) (.mk bx bl) = false := by simpa using hs
    rw [hs] at hc
    clear h
    repeat' (first | refine d4 ?_ | refine b8 ?_ | refine b7 ?_ | refine b9 ?_ | refine f5 rfl ?_ | refine d8 rfl ?_ | ((first | refine c5 (fun K hK => ?_) | refine d5 f8 (fun K hK => ?_) | refine a9 (cp hc ?_) | refine a8 (dp hc ?_) | fail); simp -implicitDefEqProofs [hkl, hkm, ha, ha', hb, hb', w2]) | refine hK _ ?_ | refine hK _ _ (by rfl) ?_ | fail)
    have e : a0v same fp gp fp.length = false := by
      have := a2q (fp.length - (k + 1)) (show a0v same fp gp (k + 1) = false by rw [hzs, hz, hs]; rfl)
      rwa [show k + 1 + (fp.length - (k + 1)) = fp.length by omega] at this
    refine d7 (d6 ?_); simp -implicitDefEqProofs [g8, f9, g7, r7, e] <;> try rfl
end Go.Proofs.YthkfdheoakbfnaaGreat.am
end
section
namespace Go.Proofs.YthkfdheoakbfnaaGreat.vt
open Go.Proofs.YthkfdheoakbfnaaGreat.am
set_option linter.unusedVariables false
theorem pig : ∀ (n : Nat) (l : List Int), l.Nodup → (∀ x ∈ l, 0 ≤ x ∧ x < n) → l.length ≤ n
  | 0, l, _, h => by
    cases l with
    | nil => simp
    | cons a l => have := h a (by simp); omega
  | n + 1, l, hn, h => by
    by_cases hm : (n : Int) ∈ l
    · have := pig n (l.erase n) (hn.erase _) (fun x hx => by
        have h1 := (hn.mem_erase_iff).1 hx
        have h2 := h x h1.2
        omega)
      rw [List.length_erase_of_mem hm] at this
      omega
    · have := pig n l hn (fun x hx => by
        have h2 := h x hx
        have : x ≠ n := fun e => hm (e ▸ hx)
        omega)
      omega
abbrev z0T : VT := .mk ⟨0, 0, ⟨#[]⟩, 0, 0⟩ []
def o9 (q : VT) : Bool := decide (q.lab.k = 34) && decide (q.kids.length = 1)
def b3t (d : VT) : Bool := decide (d.lab.k = 30) && !d.kids.isEmpty && d.kids.all o9
def c4k : List Int → Int → Int
  | [], s => s
  | n :: r, s => if n = 0 ∨ 64 < s + n then 0 else c4k r (s + n)
theorem b9n : ∀ {l : List Int} {s : Int}, (∀ n ∈ l, 0 ≤ n ∧ n ≤ 64) → 0 ≤ s → s ≤ 64 → 0 ≤ c4k l s ∧ c4k l s ≤ 64
  | [], s, _, h1, h2 => ⟨h1, h2⟩
  | n :: r, s, h, h1, h2 => by
    unfold c4k
    split
    · exact ⟨by omega, by omega⟩
    · rename_i hn
      have := h n (by simp)
      exact b9n (fun y hy => h y (by simp [hy])) (by omega) (by omega)
def wth (ml : List VT) : Nat → VT → List Int → Int
  | 0, _, _ => 0
  | f + 1, t, ins =>
    if (t.lab.k = 1 ∨ t.lab.k = 2) ∧ t.kids.length = 0 then 1
    else if t.lab.k = 3 ∧ t.kids.length = 1 ∧ 1 ≤ t.lab.n ∧ t.lab.n ≤ 16 then (if 64 < wth ml f (t.kids.getD 0 z0T) ins * t.lab.n then 0 else wth ml f (t.kids.getD 0 z0T) ins * t.lab.n)
    else if ¬ t.lab.k = 4 ∨ ¬ t.kids.length = 0 ∨ t.lab.n < 0 ∨ (ml.length : Int) ≤ t.lab.n then 0
    else if t.lab.n ∈ ins then 0
    else if b3t (ml.getD t.lab.n.toNat z0T) = true then c4k ((ml.getD t.lab.n.toNat z0T).kids.map fun q => wth ml f (q.kids.getD 0 z0T) (ins ++ [t.lab.n])) 0
    else 0
theorem b35 (ml : List VT) : ∀ (f : Nat) (t : VT) (ins : List Int), 0 ≤ wth ml f t ins ∧ wth ml f t ins ≤ 64
  | 0, _, _ => ⟨by unfold wth; omega, by unfold wth; omega⟩
  | f + 1, t, ins => by
    unfold wth
    split
    · exact ⟨by omega, by omega⟩
    · split
      · rename_i h
        have := b35 ml f (t.kids.getD 0 z0T) ins
        split
        · exact ⟨by omega, by omega⟩
        · exact ⟨Int.mul_nonneg this.1 (by omega), by omega⟩
      · split
        · exact ⟨by omega, by omega⟩
        · split
          · exact ⟨by omega, by omega⟩
          · split
            · refine b9n (fun n hn => ?_) (by omega) (by omega)
              obtain ⟨q, _, rfl⟩ := List.mem_map.1 hn
              exact b35 ml f _ _
            · exact ⟨by omega, by omega⟩
structure InsOk (ml : List VT) (ins : List Int) : Prop where
  nd : ins.Nodup
  rg : ∀ z ∈ ins, 0 ≤ z ∧ z < ml.length
theorem InsOk.nil (ml : List VT) : InsOk ml [] := ⟨by simp, fun z h => by simp at h⟩
theorem InsOk.add {ml : List VT} {ins : List Int} (h : InsOk ml ins) {z : Int} (h0 : 0 ≤ z) (h1 : z < ml.length) (hz : z ∉ ins) : InsOk ml (ins ++ [z]) ∧ ins.length + 1 ≤ ml.length := by
  have hk : InsOk ml (ins ++ [z]) := ⟨List.nodup_append.2 ⟨h.nd, by simp, fun a ha b hb => by simp at hb; subst hb; exact fun e => hz (e ▸ ha)⟩, fun y hy => by
    rcases List.mem_append.1 hy with hy | hy
    · exact h.rg y hy
    · simp at hy; subst hy; exact ⟨h0, h1⟩⟩
  refine ⟨hk, ?_⟩
  have := pig ml.length (ins ++ [z]) hk.nd hk.rg
  simpa using this
theorem b7k {n k S f a b : Nat} (h : (n - k) * S + a ≤ f + 1) (hk : k + 1 ≤ n) (hb : b < S) (ha : 0 < a) : (n - (k + 1)) * S + b ≤ f := by
  have e : n - k = (n - (k + 1)) + 1 := by omega
  rw [e, Nat.succ_mul] at h
  omega
end Go.Proofs.YthkfdheoakbfnaaGreat.vt
end
section
namespace Go.Proofs.YthkfdheoakbfnaaGreat.vt
open Go.Proofs.YthkfdheoakbfnaaGreat.am
set_option linter.unusedVariables false
noncomputable def a0p (m t : VT) : Int := wth m.kids (m.kids.length * m.size + t.size) t []
noncomputable def a4k (t : VT) : Bool := Tr.fold (fun x _ bs => !decide (x.k = 4) && bs.all id) t
theorem c52 (x : Lab) (l : List VT) : a4k (.mk x l) = (!decide (x.k = 4) && l.all a4k) := by
  unfold a4k; rw [Tr.fold_mk, List.all_map]; rfl
noncomputable def y6 (t : VT) : VT := Tr.fold (fun x _ bs => .mk ⟨x.k, x.n, ⟨#[]⟩, 0, 0⟩ bs) t
theorem a1x (x : Lab) (l : List VT) : y6 (.mk x l) = .mk ⟨x.k, x.n, ⟨#[]⟩, 0, 0⟩ (l.map y6) := Tr.fold_mk _ x l
theorem a4r (t : VT) : (y6 t).size = t.size := by
  induction t using Tr.ind with
  | h x l ih =>
  rw [a1x, Tr.size_mk, Tr.size_mk, List.map_map]
  congr 2
  exact List.map_congr_left (fun y hy => ih y hy)
noncomputable def a5j (t : VT) : VT := Tr.fold (fun x l bs => if (x.k = 12 ∨ x.k = 13) ∧ 0 < l.length then bs.getD 0 (.mk x l) else .mk x l) t
theorem c2e (x : Lab) (l : List VT) : a5j (.mk x l) = if (x.k = 12 ∨ x.k = 13) ∧ 0 < l.length then (l.map a5j).getD 0 (.mk x l) else .mk x l := Tr.fold_mk _ x l
end Go.Proofs.YthkfdheoakbfnaaGreat.vt
namespace Go.Proofs.YthkfdheoakbfnaaGreat.vt
open Go.Proofs.YthkfdheoakbfnaaGreat.am
def isT (t : VT) (k : Int) : Bool := decide (t.lab.k = k) && decide (t.kids.length = 0)
def tyT (k : Int) : VT := .mk ⟨k, 0, ⟨#[]⟩, 0, 0⟩ []
def a5c (t : VT) : VT := if t.lab.k = 5 then tyT 1 else if t.lab.k = 6 then tyT 2 else z0T
def z5 (x : Lab) (n : Nat) : Bool :=
  if x.k = 5 ∨ x.k = 7 ∨ x.k = 8 ∨ x.k = 9 ∨ x.k = 18 then decide (n = 0)
  else if x.k = 6 then decide (n = 0) && (decide (x.n = 0) || decide (x.n = 1))
  else if x.k = 11 then decide (n = 1) && (decide (x.n = 1) || decide (x.n = 2))
  else if x.k = 10 then decide (n = 2) && decide (1 ≤ x.n) && decide (x.n ≤ 13)
  else if x.k = 13 then decide (n = 1)
  else if x.k = 12 then decide (n = 2)
  else if x.k = 14 ∨ x.k = 15 then decide (1 ≤ n)
  else decide (x.k = 16) || decide (x.k = 17)
end Go.Proofs.YthkfdheoakbfnaaGreat.vt
namespace Go.Proofs.YthkfdheoakbfnaaGreat.vt
open Go.Proofs.YthkfdheoakbfnaaGreat.am
def a1v (m : VT) (n : Int) : Option VT :=
  if n < 0 then none else
  match m.kids[n.toNat / 64]? with
  | none => none
  | some d => if d.lab.k = 30 then (match d.kids[n.toNat % 64]? with | none => none | some q => if o9 q = true then q.kids[0]? else none) else none
def b5h (op : Int) (a b : VT) : VT :=
  if ((op = 1 ∨ op = 2) ∧ (isT a 2 && isT b 2) = true) ∨ ((op = 3 ∨ op = 4) ∧ ((isT a 1 && isT b 1) = true ∨ (isT a 2 && isT b 2) = true)) then tyT 2
  else if (op = 5 ∨ op = 6 ∨ op = 7 ∨ op = 8) ∧ (isT a 1 && isT b 1) = true then tyT 2
  else if 9 ≤ op ∧ (isT a 1 && isT b 1) = true then tyT 1
  else z0T
end Go.Proofs.YthkfdheoakbfnaaGreat.vt
namespace Go.Proofs.YthkfdheoakbfnaaGreat.vt
open Go.Proofs.YthkfdheoakbfnaaGreat.am
def c3j (d : VT) (kind : Int) : Bool :=
  if kind = 31 then decide (d.kids.length = 1) && !decide ((a5c (d.kids.getD 0 z0T)).lab.k = 0)
  else if kind = 32 then decide (d.kids.length = 1)
  else if kind = 33 then decide (d.kids.length = 3)
  else b3t d
def a3t (m : VT) (n kind : Int) : Bool :=
  if n < 0 then false else
  match m.kids[n.toNat]? with
  | none => false
  | some d => decide (d.lab.k = kind) && c3j d kind
theorem c3n (t : VT) : (a5c t).lab.k = if t.lab.k = 5 then 1 else if t.lab.k = 6 then 2 else 0 := by
  unfold a5c tyT
  split
  · rfl
  · split
    · rfl
    · rfl
end Go.Proofs.YthkfdheoakbfnaaGreat.vt
end
section
namespace Go.Proofs.YthkfdheoakbfnaaGreat.am
open vt
set_option linter.unusedVariables false
set_option linter.unusedSimpArgs false
def ptT (l : List VT) : List VT := l.map (fun q => q.kids.getD 0 z0T)
theorem b1q (l : List VT) : (ptT l).length = l.length := List.length_map _
theorem a7r : ptT [] = [] := rfl
theorem b3l {l : List VT} {j : Nat} {y : VT} (h : l[j]? = some y) : ptT (l.take (j + 1)) = ptT (l.take j) ++ [y.kids.getD 0 z0T] := by
  unfold ptT
  rw [List.take_add_one, h]
  simp
def ptyF (d : VT) : List VT := ptT (d.kids.getD 0 z0T).kids
def a9g (d : VT) : Bool := decide (d.lab.k = 33) && decide (d.lab.n = 1)
def b0n (i : Nat) (a d : VT) : List Fc := if a9g d = true then [⟨a.lab.s, ptyF d, d.kids.getD 1 z0T, (i : Nat)⟩] else []
def a3k : Nat → List VT → List VT → List Fc
  | i, a :: r, d :: q => b0n i a d ++ a3k (i + 1) r q
  | _, _, _ => []
structure FacOk (a d : VT) : Prop where
  k : a.lab.k = d.lab.k
  n : a.lab.n = d.lab.n
  fn : d.lab.k = 33 → ∃ p pl r b, d.kids = [.mk p pl, r, b] ∧ y6 r = r ∧ ∀ q ∈ pl, ∃ qx u ql, q = .mk qx (u :: ql) ∧ y6 u = u
theorem a4e : ∀ (ml sl : List VT) (i k : Nat) (a d : VT), ml[k]? = some a → sl[k]? = some d → a3k i (ml.take (k + 1)) (sl.take (k + 1)) = a3k i (ml.take k) (sl.take k) ++ b0n (i + k) a d
  | [], sl, i, k, a, d, h1, h2 => by simp at h1
  | x :: ml, [], i, k, a, d, h1, h2 => by simp at h2
  | x :: ml, y :: sl, i, 0, a, d, h1, h2 => by
    simp at h1 h2
    subst h1 h2
    simp [a3k]
  | x :: ml, y :: sl, i, k + 1, a, d, h1, h2 => by
    have h := a4e ml sl (i + 1) k a d (by simpa using h1) (by simpa using h2)
    rw [List.take_succ_cons, List.take_succ_cons, List.take_succ_cons, List.take_succ_cons, a3k, a3k, h, List.append_assoc, show i + 1 + k = i + (k + 1) by omega]
theorem a69 : ∀ (ml sl : List VT) (i : Nat), (a3k i ml sl).length ≤ sl.length
  | [], sl, i => by simp [a3k]
  | x :: ml, [], i => by simp [a3k]
  | x :: ml, y :: sl, i => by
    have := a69 ml sl (i + 1)
    unfold a3k b0n
    split <;> simp <;> omega
end Go.Proofs.YthkfdheoakbfnaaGreat.am
end
section
namespace Go.Proofs.YthkfdheoakbfnaaGreat.am
open Go.ChangeShapes Go.WideShapes Go.ChangeAt Go.RowKit
open vt
set_option linter.unusedVariables false
set_option linter.unusedSimpArgs false
theorem c50 (x y : Lab) (ml sl : List VT) (hl : ml.length = sl.length) (hm : ml.length ≤ 100000) (hok : ∀ (i : Nat) a d, ml[i]? = some a → sl[i]? = some d → FacOk a d) (hsz : ∀ d ∈ sl, d.size ≤ 100000) : Row Tryz.prog 6 [vT (.mk x ml), vT (.mk y sl)] [] (vFs (a3k 0 ml sl)) [] := by
  refine f6 Tryz.func6 rfl rfl (Nat.le_of_ble_eq_true rfl) ?_
  repeat (first | refine d4 ?_ | refine b8 ?_ | refine b7 ?_ | refine b9 ?_ | refine f5 rfl ?_ | refine d8 rfl ?_ | ((first | refine c5 (fun K hK => ?_) | refine d5 f8 (fun K hK => ?_) | fail); simp -implicitDefEqProofs; first | refine hK _ ?_ | refine hK _ _ (by rfl) ?_ | fail) | fail)
  refine b6r 5 33 9 (by simp) ?_
  unfold St.nil
  repeat (first | refine d4 ?_ | refine b8 ?_ | refine b7 ?_ | refine b9 ?_ | refine f5 rfl ?_ | refine d8 rfl ?_ | ((first | refine c5 (fun K hK => ?_) | refine d5 f8 (fun K hK => ?_) | fail); simp -implicitDefEqProofs; first | refine hK _ ?_ | refine hK _ _ (by rfl) ?_ | fail) | fail)
  refine l7 (ι := Nat) (fun k => s7 [(2, .v (.c (.ptr 0 0))), (3, .v (.c (.ptr 1 0))), (5, .v (.c (.row 2 9 ((a3k 0 (ml.take k) (sl.take k)).map fcc)))), (12, vLs ml), (13, vI (ml.length : Nat)), (14, vI (k : Nat))] [some (.box (ta (.mk x ml))), some (.box (ta (.mk y sl))), some (.row 33 9)]) (fun k => k ≤ ml.length) (fun k => ml.length - k) 0 (Nat.zero_le _) (f7 [0, 1, 8] (by simp -implicitDefEqProofs [a3k]) (by simp -implicitDefEqProofs [a3k]) (by decide) rfl (by simp)) (fun Z hI k hk => ?_)
  by_cases hkl : k < ml.length; rotate_left
  · have : k = ml.length := by omega
    subst this
    rw [List.take_length, hl, List.take_length]
    repeat (first | refine d4 ?_ | refine b8 ?_ | refine b7 ?_ | refine b9 ?_ | refine f5 rfl ?_ | refine d8 rfl ?_ | ((first | refine c5 (fun K hK => ?_) | refine d5 f8 (fun K hK => ?_) | fail); simp -implicitDefEqProofs; first | refine hK _ ?_ | refine hK _ _ (by rfl) ?_ | fail) | fail)
    refine d7 (d6 ?_); simp -implicitDefEqProofs [g8, f9, g7] <;> try rfl
  have hks : k < sl.length := by omega
  obtain ⟨⟨ax, al⟩, ha⟩ : ∃ a, ml[k]? = some a := ⟨_, List.getElem?_eq_getElem hkl⟩
  obtain ⟨⟨dx, dl⟩, hd⟩ : ∃ a, sl[k]? = some a := ⟨_, List.getElem?_eq_getElem hks⟩
  have ha' := (List.getElem?_eq_some_iff.1 ha).2
  have hd' := (List.getElem?_eq_some_iff.1 hd).2
  obtain ⟨e1, e2, e3⟩ := hok k _ _ ha hd
  have w2 : IntKind.i64.wrap ((k : Nat) + 1 : Int) = (k : Nat) + 1 := k9 _ (by omega) (by omega)
  have hs := a4e ml sl 0 k _ _ ha hd
  rw [Tr.lab, Tr.lab] at e1 e2
  rw [Tr.lab] at e3
  obtain ⟨F, hF⟩ : ∃ F, a3k 0 (ml.take k) (sl.take k) = F := ⟨_, rfl⟩
  have hFl : F.length ≤ k := by rw [← hF]; have := a69 (ml.take k) (sl.take k) 0; rw [List.length_take] at this; omega
  rw [hF] at hs ⊢
  by_cases c33 : ax.k = 33; rotate_left
  · have c33' : ¬ dx.k = 33 := by omega
    have hn : b0n (0 + k) (.mk ax al) (.mk dx dl) = [] := by simp [b0n, a9g, Tr.lab, c33']
    rw [hn, List.append_nil] at hs
    repeat (first | refine d4 ?_ | refine b8 ?_ | refine b7 ?_ | refine b9 ?_ | refine f5 rfl ?_ | refine d8 rfl ?_ | ((first | refine c5 (fun K hK => ?_) | refine d5 f8 (fun K hK => ?_) | fail); simp -implicitDefEqProofs [hkl, ha, ha', hks, c33, w2]; first | refine hK _ ?_ | refine hK _ _ (by rfl) ?_ | fail) | fail)
    refine ⟨k + 1, by omega, (by dsimp only; omega), ?_⟩
    rw [hI]; exact f7 [0, 1, 2] (by simp -implicitDefEqProofs [hs]) (by simp -implicitDefEqProofs [hs]) (by decide) rfl (by simp)
  by_cases c1 : ax.n = 1; rotate_left
  · have c1' : ¬ dx.n = 1 := by omega
    have hn : b0n (0 + k) (.mk ax al) (.mk dx dl) = [] := by simp [b0n, a9g, Tr.lab, c1']
    rw [hn, List.append_nil] at hs
    repeat (first | refine d4 ?_ | refine b8 ?_ | refine b7 ?_ | refine b9 ?_ | refine f5 rfl ?_ | refine d8 rfl ?_ | ((first | refine c5 (fun K hK => ?_) | refine d5 f8 (fun K hK => ?_) | fail); simp -implicitDefEqProofs [hkl, ha, ha', hks, c33, c1, w2]; first | refine hK _ ?_ | refine hK _ _ (by rfl) ?_ | fail) | fail)
    refine ⟨k + 1, by omega, (by dsimp only; omega), ?_⟩
    rw [hI]; exact f7 [0, 1, 2] (by simp -implicitDefEqProofs [hs]) (by simp -implicitDefEqProofs [hs]) (by decide) rfl (by simp)
  obtain ⟨p, pl, ⟨rx, rl⟩, ⟨bx, bl⟩, hkd, hnr, hpl⟩ := e3 (by omega)
  rw [Tr.kids] at hkd
  subst hkd
  have hks' : ¬ sl.length ≤ k := by omega
  repeat' (first | refine d4 ?_ | refine b8 ?_ | refine b7 ?_ | refine b9 ?_ | refine f5 rfl ?_ | refine d8 rfl ?_ | ((first | refine c5 (fun K hK => ?_) | refine d5 f8 (fun K hK => ?_) | fail); simp -implicitDefEqProofs [hkl, ha, ha', hd, hd', hks, hks', c33, c1]) | refine hK _ ?_ | refine hK _ _ (by rfl) ?_ | fail)
  have hdz := hsz _ (List.mem_of_getElem? hd)
  have hps : pl.length ≤ 100000 := by
    have e1 := Tr.len_size (x := p) (l := pl)
    rw [Tr.size_mk] at hdz
    simp only [List.map_cons, List.map_nil, List.sum_cons, List.sum_nil] at hdz
    omega
  refine b6s 131 1 _ 25 6 rfl rfl (by simp) ?_
  dsimp only [St.nilc, List.set]
  refine l7 (ι := Nat) (fun j => s7 [(2, .v (.c (.ptr 0 0))), (3, .v (.c (.ptr 1 0))), (5, .v (.c (.row 2 9 (F.map fcc)))), (12, vLs ml), (13, vI (ml.length : Nat)), (14, vI (k : Nat)), (8, .v (.c (.ptr 3 0))), (64, vLs pl), (65, vI (pl.length : Nat)), (66, vI (j : Nat))] [some (.box (ta (.mk x ml))), some (.box (ta (.mk y sl))), some (.row 33 9), some (.box [.pv (Sx ax.s), .row 4 6 ((ptT (pl.take j)).map tc), .pv (I rx.k), .pv (I rx.n), .pv (Sx rx.s), .pv (.sl 6 (rl.map tc)), .pv (I rx.f), .pv (I rx.t), .pv (I (k : Nat))]), some (.row 25 6)]) (fun j => j ≤ pl.length) (fun j => pl.length - j) 0 (Nat.zero_le _) (f7 [0, 1, 2, 131, 158] (by simp -implicitDefEqProofs [a7r]) (by simp -implicitDefEqProofs [a7r]) (by decide) rfl (by simp)) (fun Z2 hI2 j hj => ?_)
  by_cases hjl : j < pl.length; rotate_left
  · have : j = pl.length := by omega
    subst this
    rw [List.take_length]
    repeat (first | refine d4 ?_ | refine b8 ?_ | refine b7 ?_ | refine b9 ?_ | refine f5 rfl ?_ | refine d8 rfl ?_ | ((first | refine c5 (fun K hK => ?_) | refine d5 f8 (fun K hK => ?_) | fail); simp -implicitDefEqProofs; first | refine hK _ ?_ | refine hK _ _ (by rfl) ?_ | fail) | fail)
    simp only [Th, InB, LpQ, if_true]
    have ho1 : b0n (0 + k) (.mk ax al) (.mk dx [.mk p pl, .mk rx rl, .mk bx bl]) = [⟨ax.s, ptT pl, .mk rx rl, (k : Nat)⟩] := by
      have k33 : dx.k = 33 := by omega
      have n1 : dx.n = 1 := by omega
      simp [b0n, a9g, ptyF, Tr.lab, Tr.kids, k33, n1]
    rw [ho1] at hs
    have b3 : (F.length + 1) * 120 ≤ 140737488355328 := by omega
    have b4 : F.length + 1 ≤ 140737488355328 := by omega
    refine a34 (st' := s7 [(2, .v (.c (.ptr 0 0))), (3, .v (.c (.ptr 1 0))), (5, .v (.c (.row 2 9 (F.map fcc)))), (12, vLs ml), (13, vI (ml.length : Nat)), (14, vI (k : Nat)), (8, .v (.c (.ptr 3 0)))] [some (.box (ta (.mk x ml))), some (.box (ta (.mk y sl))), some (.row 33 9), some (.box [.pv (Sx ax.s), .pv (.sl 6 ((ptT pl).map tc)), .pv (I rx.k), .pv (I rx.n), .pv (Sx rx.s), .pv (.sl 6 (rl.map tc)), .pv (I rx.f), .pv (I rx.t), .pv (I (k : Nat))])]) (f7 [0, 1, 2, 3] (by simp -implicitDefEqProofs) (by simp -implicitDefEqProofs) (by decide) rfl (by simp)) ?_
    repeat' (first | refine d4 ?_ | refine b8 ?_ | refine b7 ?_ | refine b9 ?_ | refine f5 rfl ?_ | refine d8 rfl ?_ | ((first | refine c5 (fun K hK => ?_) | refine d5 f8 (fun K hK => ?_) | fail); simp -implicitDefEqProofs [b3, b4, w2]) | refine hK _ ?_ | refine hK _ _ (by rfl) ?_ | fail)
    refine ⟨k + 1, by omega, (by dsimp only; omega), ?_⟩
    rw [hI]; exact f7 [0, 1, 7] (by simp -implicitDefEqProofs [hs]) (by simp -implicitDefEqProofs [hs]) (by decide) rfl (by simp)
  obtain ⟨⟨qx, ql⟩, hq⟩ : ∃ a, pl[j]? = some a := ⟨_, List.getElem?_eq_getElem hjl⟩
  have hq' := (List.getElem?_eq_some_iff.1 hq).2
  obtain ⟨qx', ⟨ux, ul⟩, ql', hqe, hnu⟩ := hpl _ (List.mem_of_getElem? hq)
  obtain ⟨rfl, rfl⟩ := (Tr.mk.injEq _ _ _ _).mp hqe
  have w3 : IntKind.i64.wrap ((j : Nat) + 1 : Int) = (j : Nat) + 1 := k9 _ (by omega) (by omega)
  have hn : ptT (pl.take (j + 1)) = ptT (pl.take j) ++ [.mk ux ul] := b3l hq
  obtain ⟨G, hG⟩ : ∃ G, ptT (pl.take j) = G := ⟨_, rfl⟩
  have hGl : G.length = j := by rw [← hG, b1q, List.length_take]; omega
  rw [hG] at hn ⊢
  have b1 : (j + 1) * 72 ≤ 140737488355328 := by omega
  have b2 : j + 1 ≤ 140737488355328 := by omega
  repeat' (first | refine d4 ?_ | refine b8 ?_ | refine b7 ?_ | refine b9 ?_ | refine f5 rfl ?_ | refine d8 rfl ?_ | ((first | refine c5 (fun K hK => ?_) | refine d5 f8 (fun K hK => ?_) | fail); simp -implicitDefEqProofs [hjl, hq, hq', w3, hGl, b1, b2]) | refine hK _ ?_ | refine hK _ _ (by rfl) ?_ | fail)
  refine ⟨j + 1, by omega, (by dsimp only; omega), ?_⟩
  rw [hI2]; exact f7 [0, 1, 2, 3, 70] (by simp -implicitDefEqProofs [hn]) (by simp -implicitDefEqProofs [hn]) (by decide) rfl (by simp)
end Go.Proofs.YthkfdheoakbfnaaGreat.am
end
section
namespace Go.Proofs.YthkfdheoakbfnaaGreat.am
open Go.ChangeShapes Go.WideShapes Go.ChangeAt Go.RowKit
set_option linter.unusedVariables false
set_option linter.unusedSimpArgs false
theorem cg {P : Program} {N f : Nat} {dst : Option Nat} {first caps : List Cap} {args cargs : List AV} {ch : List AO} {ch' : List (Option AO)} {res : AV} {st : St} {K : St → Prop} (hrow : Row P f cargs ch res ch') (σ : List Nat) (hk : K ((st.wr (wrs (a15 σ ch.length st.nx) 0 ch') 8).put dst (res.ren (a15 σ ch.length st.nx)))) (hfit : a1u ch.length (fun i => σ.getD i 0) cargs (first.map a8c ++ args ++ caps.map a8c) := by first | (simp [*]; done) | fail) (ho : a8d (hlk st.hp) ch.length (fun i => σ.getD i 0) (ch.map some) σ := by first | (simp [*]; done) | fail) (hnd : σ.Nodup := by first | decide | (simp; done) | fail) (hl : ch'.length ≤ ch.length + 8 := by first | decide | (simp; done) | fail) (hl' : ch.length ≤ ch'.length := by first | decide | (simp; done) | fail) (hd : dok N dst = true := by rfl) :
    a8q P N dst (.v (.c (.fn (.func f) first caps))) args st K := ⟨f, first, caps, cargs, ch, res, ch', σ, rfl, hrow, hfit, ho, hnd, hl, hl', hd, hk⟩
theorem dg {P : Program} {N f : Nat} {dst : Option Nat} {first caps : List Cap} {args cargs : List AV} {ch : List AO} {ch' : List (Option AO)} {res : AV} {st : St} {K : List Nat → List Nat → St → Prop} (hrow : Row P f cargs ch res ch') (σ : List Nat) (hk : K σ ((wrs (a15 σ ch.length st.nx) 0 ch').map (·.1)) ((st.wr (wrs (a15 σ ch.length st.nx) 0 ch') 8).put dst (res.ren (a15 σ ch.length st.nx)))) (hfit : a1u ch.length (fun i => σ.getD i 0) cargs (first.map a8c ++ args ++ caps.map a8c) := by first | (simp [*]; done) | fail) (ho : a8d (hlk st.hp) ch.length (fun i => σ.getD i 0) (ch.map some) σ := by first | (simp [*]; done) | fail) (hnd : σ.Nodup := by first | decide | (simp; done) | fail) (hl : ch'.length ≤ ch.length + 8 := by first | decide | (simp; done) | fail) (hl' : ch.length ≤ ch'.length := by first | decide | (simp; done) | fail) (hd : dok N dst = true := by rfl) :
    b0w P N dst (.v (.c (.fn (.func f) first caps))) args st K := ⟨f, first, caps, cargs, ch, res, ch', σ, rfl, hrow, hfit, ho, hnd, hl, hl', hd, hk⟩
attribute [simp] wrs a15 AC.ren AT.ren AV.ren AO.ren Cap.ren
def FinG (P : Program) (rs : List ResultVar) (res : AV) (ch' : List (Option AO)) (r : List Nat) (st : St) : Prop :=
  match f9 P st rs with
  | some x => c0d ch'.length (fun i => r.getD i 0) res x ∧ a8d (hlk st.hp) ch'.length (fun i => r.getD i 0) ch' r
  | none => False
theorem fin_g {P : Program} {nb : Nat} {rs : List ResultVar} {res : AV} {ch' : List (Option AO)} {st : St} (r : List Nat) (h : FinG P rs res ch' r st) (hnd : r.Nodup := by first | decide | (simp; done)) (ht : r.take nb = List.range nb := by rfl) (hl : nb ≤ ch'.length := by first | decide | (simp; done)) : Fin P nb rs res ch' .ret st := by
  unfold FinG at h
  split at h
  · rename_i x hx; exact ⟨x, r, hx, h.1, h.2, hnd, ht, hl⟩
  · exact h.elim
section
variable {X : Ctx} {H : Nat → Option AO} {U : Nat → Prop} {γ : Nat → G} {S : CS} {w : World}
theorem Mem.nilarr (h : Mem X H U γ S w) {nm : Nat} (hn : U nm) (e : TypeId) (es : Nat) : Mem X (upd H nm (some (.arr e es []))) (fun x => U x ∧ x ≠ nm) (upd γ nm (.val (.slice none 0 0))) S w := by
  have m := h.nilrow hn e es
  refine { m with off := fun x hx => ?_, obj := fun x o hx => ?_ }
  · by_cases h1 : x = nm
    · subst h1; rw [i3] at hx; cases hx
    · rw [i4 _ _ h1] at hx; exact m.off x (by rw [i4 _ _ h1]; exact hx)
  · by_cases h1 : x = nm
    · subst h1; rw [i3] at hx; cases hx
      exact ⟨_, [], i3 _ _ _, World.ownsRow_nil w 0 e es, fun i e j p h => by simp at h, fun e h => by simp at h, fun b hb => by cases hb⟩
    · rw [i4 _ _ h1] at hx; exact m.obj x o (by rw [i4 _ _ h1]; exact hx)
theorem b1m {γ' : Nat → G} {v : Value} {nm es : Nat} (h : j7 γ S w v (.v (.c (.pv .nilS)))) (hg : γ' nm = .val (.slice none 0 0)) : a2s γ' S w v (.arr nm es 0) := by
  obtain rfl := t4 h
  exact ⟨⟨none, 0, rfl⟩, .inr hg⟩
def AC.frz (id : Nat) (p : PV) : AC → AC
  | .arr i es n => if i = id then .pv p else .arr i es n
  | .vw i es lo n => if i = id then (match p with | .sl es' l => if es' = es ∧ lo + n ≤ l.length ∧ (lo = 0 ∨ 0 < n) then .pv (.sl es ((l.drop lo).take n)) else .top | _ => .top) else .vw i es lo n
  | c => c
def AT.frz (id : Nat) (p : PV) : AT → AT
  | .c x => .c (x.frz id p)
  | .agg l => .agg (l.map (AC.frz id p))
def AV.frz (id : Nat) (p : PV) : AV → AV
  | .v x => .v (x.frz id p)
  | .ep i es k o => if i = id then .top else .ep i es k o
  | .tup l => .tup (l.map (AT.frz id p))
  | x => x
def AO.frz (id : Nat) (p : PV) : AO → AO
  | .box l => .box (l.map (AC.frz id p))
  | o => o
theorem a2s.frz {γ' : Nat → G} {id : Nat} {p : PV} {v0 : Value} (hg : γ id = .val v0) (hp : RepP S w v0 p) (hγ : γ' = upd γ id .dead) (hG : GOn γ γ') {v : Value} {c : AC} (h : a2s γ S w v c) : a2s γ' S w v (c.frz id p) := by
  have hm : ∀ {c}, a2s γ S w v c → a2s γ' S w v c := fun h => h.mono hG (fun _ _ h => h) (fun _ _ _ => rfl)
  cases c with
  | arr i es n =>
    show a2s γ' S w v (if i = id then .pv p else .arr i es n)
    by_cases hi : i = id
    · rw [if_pos hi]
      subst hi
      rcases h.2 with k | k
      · rw [hg] at k; cases k
      · rw [hg] at k; cases k; exact hp
    · rw [if_neg hi]; exact hm h
  | vw i es lo n =>
    have h1 := h.one
    by_cases hi : i = id
    · subst hi
      unfold AC.frz
      dsimp only
      rw [if_pos rfl]
      split
      · rename_i es' l
        split
        · rename_i hc
          obtain ⟨rfl, hc, hd⟩ := hc
          obtain ⟨a, m, c, hx, a1, hl1, hl2, ha1, rfl⟩ := h
          rcases hx with k | k
          · rw [hg] at k; cases k
          rw [hg] at k; cases k
          obtain ⟨a2, c2, e2, hs⟩ := a1q hp
          injection e2 with q1 q2 q3
          subst q1 q2 q3
          have hln : ((l.drop lo).take n).length = n := by rw [List.length_take, List.length_drop]; omega
          have key := hs.part lo (lo + n) c (by omega) (by omega) (Nat.le_refl _) (by omega)
          have e3 : (l.take (lo + n)).drop lo = (l.drop lo).take n := by rw [List.drop_take]; congr 1; omega
          rw [e3] at key
          have key := a30 key
          rw [hln] at key
          rcases hd with hd | hd
          · subst hd
            have hz0 : ∀ z : Addr, z.add 0 = z := fun z => by unfold Addr.add; split <;> simp_all
            have e4 : a1 = a := by rw [ha1 (.inl rfl)]; cases a <;> simp [hz0]
            rw [e4]
            have e5 : (if c = 0 then a else a.map (·.add (0 * es'))) = a := by
              split
              · rfl
              · cases a <;> simp [hz0]
            rw [e5] at key
            exact key
          · rw [ha1 (.inr hd)]
            rw [if_neg (by omega)] at key
            exact key
        · exact h1
      · exact h1
    · unfold AC.frz
      dsimp only
      rw [if_neg hi]; exact hm h
  | _ => exact hm h
theorem n4.frz {γ' : Nat → G} {id : Nat} {p : PV} {v0 : Value} (hg : γ id = .val v0) (hp : RepP S w v0 p) (hγ : γ' = upd γ id .dead) (hG : GOn γ γ') {vs : List Value} {l : List AC} (h : n4 γ S w vs l) : n4 γ' S w vs (l.map (AC.frz id p)) := by
  refine ⟨by rw [List.length_map]; exact h.1, fun i c hi => ?_⟩
  obtain ⟨x, hx, rfl⟩ := a9k hi
  obtain ⟨v, h1, h2⟩ := h.2 i x hx
  exact ⟨v, h1, h2.frz hg hp hγ hG⟩
theorem a1l.frz {γ' : Nat → G} {id : Nat} {p : PV} {v0 : Value} (hg : γ id = .val v0) (hp : RepP S w v0 p) (hγ : γ' = upd γ id .dead) (hG : GOn γ γ') {v : Value} {c : AT} (h : a1l γ S w v c) : a1l γ' S w v (c.frz id p) := by
  cases c with
  | c x => exact a2s.frz hg hp hγ hG h
  | agg l => obtain ⟨cs, h1, h2⟩ := h; exact ⟨cs, h1, h2.frz hg hp hγ hG⟩
theorem j7.frz {γ' : Nat → G} {id : Nat} {p : PV} {v0 : Value} (hg : γ id = .val v0) (hp : RepP S w v0 p) (hγ : γ' = upd γ id .dead) (hG : GOn γ γ') {v : Value} {c : AV} (h : j7 γ S w v c) : j7 γ' S w v (c.frz id p) := by
  cases c with
  | v x => exact a1l.frz hg hp hγ hG h
  | tup l =>
    obtain ⟨cs, h1, h2⟩ := h
    refine ⟨cs, h1, by rw [List.length_map]; exact h2.1, fun i c hi => ?_⟩
    obtain ⟨x, hx, rfl⟩ := a9k hi
    obtain ⟨v, h3, h4⟩ := h2.2 i x hx
    exact ⟨v, h3, h4.frz hg hp hγ hG⟩
  | ep i es k o =>
    show j7 γ' S w v (if i = id then .top else .ep i es k o)
    by_cases hi : i = id
    · rw [if_pos hi]; trivial
    · rw [if_neg hi]; exact j7.mono hG (fun _ _ h => h) (fun _ _ _ => rfl) h
  | rp c o => exact h
  | top => trivial
theorem Mem.freeze (h : Mem X H U γ S w) {id : Nat} {e : TypeId} {es : Nat} {l : List (List PV)} (hH : H id = some (.arr e es l)) :
    ∃ (S' : CS) (v0 : Value), (∀ b o, S b o → S' b o) ∧ γ id = .val v0 ∧ RepP S' w v0 (.sl es l) ∧ Mem X (fun x => if x = id then none else (H x).map (AO.frz id (.sl es l))) U (upd γ id .dead) S' w := by
  obtain ⟨v0, xs, g1, g2, g3, g5, g4⟩ := h.obj _ _ hH
  have hG := GOn.kill g1
  have hown : ∀ b, v0.ownBlock = some b → (γ id).bk = some b := fun b hb => by rw [g1]; exact hb
  refine ⟨fun b o => S b o ∨ (v0.ownBlock = some b ∧ o < l.length * es), v0, fun _ _ h => .inl h, g1, ?_, ?_⟩
  · rcases g2.2 with ⟨k1, k2⟩ | ⟨g, cap, cur, k1, _, k3, k4, k5, k6, k7⟩
    · subst k1
      have : l = [] := List.length_eq_zero_iff.1 k2
      subst this
      exact .emp none 0 es (by decide) (fun _ => rfl)
    · subst k1
      refine y5 (xs := xs) g5 ((b6n g2 g3 g5).mono (fun _ _ h => .inl h) (fun _ _ _ => rfl)) k4 (by unfold maxLen at k5; omega) (fun k u hk => ?_)
      have hk1 : k < l.length * es := by have := (List.getElem?_eq_some_iff.1 hk).1; rw [g2.1] at this; exact this
      refine ⟨.inr ⟨rfl, hk1⟩, ?_⟩
      rw [r8 k3, ← hk, ← k7, List.getElem?_take, if_pos hk1]
  · have hmk := h.kill g1
    have hobk : ∀ b o, (S b o ∨ (v0.ownBlock = some b ∧ o < l.length * es)) → ∀ x, x ≠ id → (γ x).bk = some b → S b o := fun b o hs x hx hb => hs.elim (fun h => h) (fun hs => (h.dist x id hx b hb (hown b hs.1)).elim)
    have hvS : RepP (fun b o => S b o ∨ (v0.ownBlock = some b ∧ o < l.length * es)) w v0 (.sl es l) := by
      rcases g2.2 with ⟨k1, k2⟩ | ⟨g, cap, cur, k1, _, k3, k4, k5, k6, k7⟩
      · subst k1
        have : l = [] := List.length_eq_zero_iff.1 k2
        subst this
        exact .emp none 0 es (by decide) (fun _ => rfl)
      · subst k1
        refine y5 (xs := xs) g5 ((b6n g2 g3 g5).mono (fun _ _ h => .inl h) (fun _ _ _ => rfl)) k4 (by unfold maxLen at k5; omega) (fun k u hk => ?_)
        have hk1 : k < l.length * es := by have := (List.getElem?_eq_some_iff.1 hk).1; rw [g2.1] at this; exact this
        refine ⟨.inr ⟨rfl, hk1⟩, ?_⟩
        rw [r8 k3, ← hk, ← k7, List.getElem?_take, if_pos hk1]
    refine ⟨hmk.os, hmk.tape, hmk.output, hmk.size, hmk.frame, fun b o hs => ⟨.inl (h.keep b o hs).1, (h.keep b o hs).2⟩, fun b o hs => ?_, fun b o hs => ?_, hmk.mono, hmk.un, fun x hx => ?_, fun x o hx => ?_, hmk.dist, hmk.live⟩
    · rcases hs with hs | ⟨hs, _⟩
      · exact h.fresh b o hs
      · exact .inr (h.live id b (hown b hs)).2
    · rcases hs with hs | ⟨hs, _⟩
      · exact h.inb b o hs
      · exact (h.live id b (hown b hs)).1
    · by_cases hxi : x = id
      · subst hxi; exact .inr (i3 _ _ _)
      · rw [if_neg hxi] at hx
        rw [i4 _ _ hxi]
        exact h.off x (Option.map_eq_none_iff.1 hx)
    · by_cases hxi : x = id
      · rw [if_pos hxi] at hx; cases hx
      · rw [if_neg hxi] at hx
        obtain ⟨o0, ho0, rfl⟩ := Option.map_eq_some_iff.1 hx
        have hO : a2r (upd γ id .dead) (fun b o => S b o ∨ (v0.ownBlock = some b ∧ o < l.length * es)) w x o0 := a2r.on (h.obj x o0 ho0) (i4 _ _ hxi) hG (fun _ _ h => .inl h) (fun _ _ _ => rfl) (fun b hb => ⟨rfl, fun o hs => hobk b o hs x hxi hb⟩)
        cases o0 with
        | box cells =>
          obtain ⟨b, cs, t, k1, k2, k3, k4⟩ := h.obj x _ ho0
          refine ⟨b, cs, t, by rw [i4 _ _ hxi]; exact k1, k2, ?_, fun o hs => k4 o (hobk b o hs x hxi (by rw [k1]; rfl))⟩
          exact (k3.mono (GOn.refl _) (fun _ _ h => .inl h) (fun _ _ _ => rfl)).frz g1 hvS rfl hG
        | _ => exact hO
end
section
variable {P : Program} {N nb : Nat} {st : St} {Q : Exit → St → Prop}
def St.nilca (st : St) (id j : Nat) (cells : List AC) (e : TypeId) (es : Nat) : St := ⟨st.tm, (id, some (.box (cells.set j (.arr st.nx es 0)))) :: (st.nx, some (.arr e es [])) :: st.hp, st.nx + 1⟩
theorem c07 {c : Code} (id j : Nat) (cells : List AC) (e : TypeId) (es : Nat) (hid : hlk st.hp id = some (.box cells)) (hj : cells[j]? = some (.pv .nilS)) (hlt : id < st.nx) (h : AW P N nb c (st.nilca id j cells e es) Q) : AW P N nb c st Q := by
  refine a34 (fun X hX a w hr => ?_) h
  obtain ⟨h1, h2, γ, S, hm, ha⟩ := hr
  have hG := GOn.upd_un (hm.un st.nx (Nat.le_refl _)) (.val (.slice none 0 0))
  refine ⟨h1, h2, upd γ st.nx (.val (.slice none 0 0)), S, ?_, fun s => (ha s).mono hG (fun _ _ h => h) (fun _ _ _ => rfl)⟩
  have m := hm.nilarr (nm := st.nx) (Nat.le_refl _) e es
  show Mem X (hlk ((id, some (.box (cells.set j (.arr st.nx es 0)))) :: (st.nx, some (.arr e es [])) :: st.hp)) _ _ _ _
  rw [a1c, a1c]
  have hne : id ≠ st.nx := by omega
  have hid' : upd (hlk st.hp) st.nx (some (.arr e es [])) id = some (.box cells) := by rw [i4 _ _ hne]; exact hid
  refine { m with un := fun x hx => m.un x ⟨by have : st.nx + 1 ≤ x := hx
                                               omega, by have : st.nx + 1 ≤ x := hx
                                                         omega⟩, off := fun x hx => ?_, obj := fun x o hx => ?_ }
  · by_cases hxi : x = id
    · subst hxi; rw [i3] at hx; cases hx
    · rw [i4 _ _ hxi] at hx; exact m.off x hx
  · by_cases hxi : x = id
    · subst hxi
      rw [i3] at hx; cases hx
      obtain ⟨b, cs, t, k1, k2, k3, k4⟩ := m.obj x _ hid'
      refine ⟨b, cs, t, k1, k2, ⟨by rw [List.length_set]; exact k3.1, fun i ac hi => ?_⟩, k4⟩
      rw [List.getElem?_set] at hi
      split at hi
      · rename_i hij
        split at hi
        · cases hi
          subst hij
          obtain ⟨v, g1, g2⟩ := k3.2 j _ hj
          exact ⟨v, g1, b1m (γ := upd γ st.nx (.val (.slice none 0 0))) g2 (i3 _ _ _)⟩
        · cases hi
      · exact k3.2 i ac hi
    · rw [i4 _ _ hxi] at hx; exact m.obj x o hx
def St.frz (st : St) (id es : Nat) (l : List (List PV)) : St := ⟨st.tm.map fun p => (p.1, p.2.frz id (.sl es l)), st.hp.map fun p => (p.1, if p.1 = id then none else p.2.map (AO.frz id (.sl es l))), st.nx⟩
theorem c3o (f : AV → AV) (hf : f .top = .top) : ∀ (l : List (Nat × AV)) (t : Nat), lk (l.map fun p => (p.1, f p.2)) t = f (lk l t)
  | [], t => hf.symm
  | p :: l, t => by
    unfold lk
    rw [List.map_cons]
    dsimp only
    split
    · rfl
    · exact c3o f hf l t
theorem b7o (f : Nat → Option AO → Option AO) (hf : ∀ x, f x none = none) : ∀ (l : List (Nat × Option AO)) (t : Nat), hlk (l.map fun p => (p.1, f p.1 p.2)) t = f t (hlk l t)
  | [], t => (hf t).symm
  | p :: l, t => by
    unfold hlk
    rw [List.map_cons]
    dsimp only
    split
    · rename_i h; rw [h]
    · exact b7o f hf l t
theorem aw_frz {c : Code} (id : Nat) (e : TypeId) (es : Nat) (l : List (List PV)) (hid : hlk st.hp id = some (.arr e es l)) (h : AW P N nb c (st.frz id es l) Q) : AW P N nb c st Q := by
  refine a34 (fun X hX a w hr => ?_) h
  obtain ⟨h1, h2, γ, S, hm, ha⟩ := hr
  obtain ⟨S', v0, hS, hg, hp, m⟩ := hm.freeze hid
  refine ⟨h1, h2, upd γ id .dead, S', ?_, fun s => ?_⟩
  · show Mem X (hlk (st.hp.map fun p => (p.1, if p.1 = id then none else p.2.map (AO.frz id (.sl es l))))) _ _ _ _
    have e1 : hlk (st.hp.map fun p => (p.1, if p.1 = id then none else p.2.map (AO.frz id (.sl es l)))) = fun x => if x = id then none else (hlk st.hp x).map (AO.frz id (.sl es l)) := by
      funext x
      exact b7o (fun x o => if x = id then none else o.map (AO.frz id (.sl es l))) (fun x => by split <;> rfl) st.hp x
    rw [e1]; exact m
  · show j7 _ S' w _ (lk (st.tm.map fun p => (p.1, p.2.frz id (.sl es l))) s)
    rw [c3o (AV.frz id (.sl es l)) rfl]
    exact ((ha s).mono (GOn.refl _) hS (fun _ _ _ => rfl)).frz hg hp rfl (GOn.kill hg)
end
end Go.Proofs.YthkfdheoakbfnaaGreat.am
end
section
namespace Go.Proofs.YthkfdheoakbfnaaGreat.am
open Go.ChangeShapes Go.WideShapes Go.ChangeAt Go.RowKit
open vt
set_option linter.unusedVariables false
set_option linter.unusedSimpArgs false
theorem td_ints : td Tryz.prog 100 = some ⟨false, 1, 24, [.nilS], [], (.slice 3)⟩ := Eq.trans (by kernel_rfl) (Eq.refl _)
attribute [simp] td_ints
abbrev Is (l : List Int) : PV := .sl 1 (l.map fun z => [I z])
abbrev vIs (l : List Int) : AV := .v (.c (.pv (Is l)))
theorem lab_ok {x : Lab} {l : List VT} (h : t7 (.mk x l)) : x.ok := ((Tr.all_mk _ x l).1 h).1
theorem b29 {x : Lab} {l : List VT} (h : t7 (.mk x l)) {y : VT} (hy : y ∈ l) : t7 y := ((Tr.all_mk _ x l).1 h).2 y hy
theorem a1z (d : VT) (hl : d.size ≤ 1000000) : Row Tryz.prog 45 [vT d] [] (vB (b3t d)) [] := by
  obtain ⟨x, l⟩ := d
  have hlen := Tr.len_size (x := x) (l := l)
  by_cases h30 : x.k = 30; rotate_left
  · rw [show b3t (.mk x l) = false by simp [b3t, Tr.lab, h30]]
    refine f6 Tryz.func45 rfl rfl (Nat.le_of_ble_eq_true rfl) ?_
    repeat (first | refine d4 ?_ | refine b8 ?_ | refine b7 ?_ | refine b9 ?_ | refine f5 rfl ?_ | refine d8 rfl ?_ | ((first | refine c5 (fun K hK => ?_) | refine d5 f8 (fun K hK => ?_) | fail); simp -implicitDefEqProofs [h30]; first | refine hK _ ?_ | refine hK _ _ (by rfl) ?_ | fail) | fail)
    refine d7 (d6 ?_); simp -implicitDefEqProofs [g8, f9, g7] <;> try rfl
  by_cases h0 : l = []
  · subst h0
    rw [show b3t (.mk x []) = false by simp [b3t, Tr.kids]]
    refine f6 Tryz.func45 rfl rfl (Nat.le_of_ble_eq_true rfl) ?_
    repeat (first | refine d4 ?_ | refine b8 ?_ | refine b7 ?_ | refine b9 ?_ | refine f5 rfl ?_ | refine d8 rfl ?_ | ((first | refine c5 (fun K hK => ?_) | refine d5 f8 (fun K hK => ?_) | fail); simp -implicitDefEqProofs [h30]; first | refine hK _ ?_ | refine hK _ _ (by rfl) ?_ | fail) | fail)
    refine d7 (d6 ?_); simp -implicitDefEqProofs [g8, f9, g7] <;> try rfl
  have hs : b3t (.mk x l) = l.all o9 := by
    have : l.isEmpty = false := by cases l <;> simp at h0 ⊢
    simp [b3t, Tr.lab, Tr.kids, h30, this]
  have h0' : ¬ l.length = 0 := fun h => h0 (List.eq_nil_of_length_eq_zero h)
  have h0'' : ¬ (l.length : Int) = 0 := by omega
  rw [hs]
  clear hs
  refine f6 Tryz.func45 rfl rfl (Nat.le_of_ble_eq_true rfl) ?_
  repeat (first | refine d4 ?_ | refine b8 ?_ | refine b7 ?_ | refine b9 ?_ | refine f5 rfl ?_ | refine d8 rfl ?_ | ((first | refine c5 (fun K hK => ?_) | refine d5 f8 (fun K hK => ?_) | fail); simp -implicitDefEqProofs [h30, h0, h0', h0'']; first | refine hK _ ?_ | refine hK _ _ (by rfl) ?_ | fail) | fail)
  refine l7 (ι := Nat) (fun k => s7 [(1, .v (.c (.ptr 0 0))), (3, vI (k : Nat))] [some (.box (ta (.mk x l)))]) (fun k => k ≤ l.length ∧ (l.take k).all o9 = true) (fun k => l.length - k) 0 ⟨Nat.zero_le _, by simp⟩ (f7 [0] (by simp -implicitDefEqProofs [h30]) (by simp -implicitDefEqProofs [h30]) (by decide) rfl (by simp)) (fun Z hI k hk => ?_)
  obtain ⟨hk, hz⟩ := hk
  by_cases hkl : k < l.length; rotate_left
  · have : k = l.length := by omega
    subst this
    rw [List.take_length] at hz
    repeat (first | refine d4 ?_ | refine b8 ?_ | refine b7 ?_ | refine b9 ?_ | refine f5 rfl ?_ | refine d8 rfl ?_ | ((first | refine c5 (fun K hK => ?_) | refine d5 f8 (fun K hK => ?_) | fail); simp -implicitDefEqProofs; first | refine hK _ ?_ | refine hK _ _ (by rfl) ?_ | fail) | fail)
    refine d7 (d6 ?_); simp -implicitDefEqProofs [g8, f9, g7, hz] <;> try rfl
  obtain ⟨⟨ax, al⟩, ha⟩ : ∃ a, l[k]? = some a := ⟨_, List.getElem?_eq_getElem hkl⟩
  have ha' := (List.getElem?_eq_some_iff.1 ha).2
  have hsz1 := Tr.size_at (x := x) ha
  have w2 : IntKind.i64.wrap ((k : Nat) + 1 : Int) = (k : Nat) + 1 := k9 _ (by omega) (by omega)
  by_cases h34 : ax.k = 34
  · by_cases h1 : al.length = 1
    · have h1' : (al.length : Int) = 1 := by omega
      have hp : o9 (.mk ax al) = true := by simp [o9, Tr.lab, Tr.kids, h34, h1]
      repeat (first | refine d4 ?_ | refine b8 ?_ | refine b7 ?_ | refine b9 ?_ | refine f5 rfl ?_ | refine d8 rfl ?_ | ((first | refine c5 (fun K hK => ?_) | refine d5 f8 (fun K hK => ?_) | fail); simp -implicitDefEqProofs [hkl, ha, ha', h34, h1, h1', w2]; first | refine hK _ ?_ | refine hK _ _ (by rfl) ?_ | fail) | fail)
      refine ⟨k + 1, ⟨by omega, by rw [List.take_add_one, ha, Option.toList_some, List.all_append, hz]; simp [hp]⟩, (by dsimp only; omega), ?_⟩
      rw [hI]; exact f7 [0] (by simp -implicitDefEqProofs) (by simp -implicitDefEqProofs) (by decide) rfl (by simp)
    · have h1' : ¬ (al.length : Int) = 1 := by omega
      have hp : o9 (.mk ax al) = false := by simp [o9, Tr.lab, Tr.kids, h34, h1]
      have e : l.all o9 = false := by rw [List.all_eq_false]; exact ⟨_, List.mem_of_getElem? ha, by rw [hp]; simp⟩
      repeat (first | refine d4 ?_ | refine b8 ?_ | refine b7 ?_ | refine b9 ?_ | refine f5 rfl ?_ | refine d8 rfl ?_ | ((first | refine c5 (fun K hK => ?_) | refine d5 f8 (fun K hK => ?_) | fail); simp -implicitDefEqProofs [hkl, ha, ha', h34, h1, h1']; first | refine hK _ ?_ | refine hK _ _ (by rfl) ?_ | fail) | fail)
      refine d7 (d6 ?_); simp -implicitDefEqProofs [g8, f9, g7, e] <;> try rfl
  · have hp : o9 (.mk ax al) = false := by simp [o9, Tr.lab, Tr.kids, h34]
    have e : l.all o9 = false := by rw [List.all_eq_false]; exact ⟨_, List.mem_of_getElem? ha, by rw [hp]; simp⟩
    repeat (first | refine d4 ?_ | refine b8 ?_ | refine b7 ?_ | refine b9 ?_ | refine f5 rfl ?_ | refine d8 rfl ?_ | ((first | refine c5 (fun K hK => ?_) | refine d5 f8 (fun K hK => ?_) | fail); simp -implicitDefEqProofs [hkl, ha, ha', h34]; first | refine hK _ ?_ | refine hK _ _ (by rfl) ?_ | fail) | fail)
    refine d7 (d6 ?_); simp -implicitDefEqProofs [g8, f9, g7, e] <;> try rfl
end Go.Proofs.YthkfdheoakbfnaaGreat.am
end
