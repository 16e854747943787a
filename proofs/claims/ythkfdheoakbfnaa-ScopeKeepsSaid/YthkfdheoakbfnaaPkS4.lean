import Derived.Test.YthkfdheoakbfnaaPkS3
import Derived.Scope
import Derived.Test.YthkfdheoakbfnaaProg
import Derived.IntWalk
section
namespace Go.Proofs.Ythkfdheoakbfnaa.vt
open Go.Proofs.Ythkfdheoakbfnaa.am
set_option linter.unusedVariables false
inductive Tr (α : Type) where
  | mk (x : α) (l : List (Tr α))
namespace Tr
variable {α : Type}
def lab : Tr α → α
  | .mk x _ => x
def kids : Tr α → List (Tr α)
  | .mk _ l => l
theorem ind {P : Tr α → Prop} (h : ∀ x l, (∀ y ∈ l, P y) → P (.mk x l)) (t : Tr α) : P t :=
  Tr.rec (motive_1 := P) (motive_2 := fun l => ∀ y ∈ l, P y) h (fun y hy => by simp at hy) (fun x l hx hl y hy => by
    rcases List.mem_cons.1 hy with rfl | hy
    · exact hx
    · exact hl y hy) t
noncomputable def fold {β : Type} (g : α → List (Tr α) → List β → β) (t : Tr α) : β :=
  Tr.rec (motive_1 := fun _ => β) (motive_2 := fun _ => List β) (fun x l ih => g x l ih) [] (fun _ _ a b => a :: b) t
theorem fold_mk {β : Type} (g : α → List (Tr α) → List β → β) (x : α) (l : List (Tr α)) : fold g (.mk x l) = g x l (l.map (fold g)) := by
  show g x l _ = _
  congr 1
  induction l with
  | nil => rfl
  | cons y l ih => show fold g y :: _ = _; rw [ih]; rfl
noncomputable def size (t : Tr α) : Nat := fold (fun _ _ b => 1 + b.sum) t
theorem size_mk (x : α) (l : List (Tr α)) : size (.mk x l) = 1 + (l.map size).sum := fold_mk _ x l
theorem size_pos (t : Tr α) : 0 < size t := by cases t; rw [size_mk]; omega
theorem size_at {x : α} {l : List (Tr α)} {i : Nat} {y : Tr α} (h : l[i]? = some y) : size y < size (.mk x l) := by
  rw [size_mk]
  have : size y ≤ (l.map size).sum := by
    induction l generalizing i with
    | nil => simp at h
    | cons z l ih =>
      cases i with
      | zero => simp at h; subst h; simp
      | succ i => have := ih (by simpa using h); simp; omega
  omega
theorem len_size {x : α} {l : List (Tr α)} : l.length < size (.mk x l) := by
  rw [size_mk]
  have : l.length ≤ (l.map size).sum := by
    induction l with
    | nil => simp
    | cons z l ih => have := size_pos z; simp; omega
  omega
noncomputable def all (p : α → Prop) (t : Tr α) : Prop := fold (fun x _ b => p x ∧ ∀ q ∈ b, q) t
end Tr
structure Lab where
  k : Int
  n : Int
  s : ByteArray
  f : Int
  t : Int
def Lab.ok (x : Lab) : Prop := (-9223372036854775808 ≤ x.k ∧ x.k ≤ 9223372036854775807) ∧ (-9223372036854775808 ≤ x.n ∧ x.n ≤ 9223372036854775807) ∧ (-9223372036854775808 ≤ x.f ∧ x.f ≤ 9223372036854775807) ∧ (-9223372036854775808 ≤ x.t ∧ x.t ≤ 9223372036854775807)
abbrev VT := Tr Lab
abbrev I (z : Int) : PV := .lit (.int .i64 z)
abbrev Sx (s : ByteArray) : PV := .lit (.string s)
abbrev Bo (b : Bool) : PV := .lit (.bool b)
abbrev vI (z : Int) : AV := .v (.c (.pv (I z)))
abbrev vS (s : ByteArray) : AV := .v (.c (.pv (Sx s)))
abbrev vB (b : Bool) : AV := .v (.c (.pv (Bo b)))
noncomputable def tc (t : VT) : List PV := Tr.fold (fun x _ b => [I x.k, I x.n, Sx x.s, .sl 6 b, I x.f, I x.t]) t
theorem tc_mk (x : Lab) (l : List VT) : tc (.mk x l) = [I x.k, I x.n, Sx x.s, .sl 6 (l.map tc), I x.f, I x.t] := Tr.fold_mk _ x l
theorem tc_len (t : VT) : (tc t).length = 6 := by cases t; rw [tc_mk]; rfl
noncomputable def ta (t : VT) : List AC := (tc t).map .pv
theorem ta_mk (x : Lab) (l : List VT) : ta (.mk x l) = [.pv (I x.k), .pv (I x.n), .pv (Sx x.s), .pv (.sl 6 (l.map tc)), .pv (I x.f), .pv (I x.t)] := by unfold ta; rw [tc_mk]; rfl
noncomputable abbrev vT (t : VT) : AV := .v (.agg (ta t))
noncomputable abbrev vLs (l : List VT) : AV := .v (.c (.pv (.sl 6 (l.map tc))))
theorem ta_len (t : VT) : (ta t).length = 6 := by unfold ta; rw [List.length_map]; exact tc_len t
theorem mapM_pure (l : List PV) : (l.map AC.pv).mapM pureC = some l := by
  induction l with
  | nil => rfl
  | cons p l ih => rw [List.map_cons, List.mapM_cons, ih]; rfl
theorem ta_pure (t : VT) : (ta t).mapM pureC = some (tc t) := mapM_pure _
theorem fit_pure {n : Nat} {ρ : Nat → Nat} (l : List PV) : fitCs n ρ (l.map AC.pv) (l.map AC.pv) := by
  induction l with
  | nil => trivial
  | cons p l ih => exact ⟨fitP_refl p, ih⟩
theorem fit_ta {n : Nat} {ρ : Nat → Nat} (t : VT) : fitCs n ρ (ta t) (ta t) := fit_pure _
theorem ta_take (t : VT) : (ta t).take 6 = ta t := List.take_of_length_le (by rw [ta_len]; exact Nat.le_refl _)
attribute [simp] ta_mk tc_mk ta_len tc_len ta_pure fit_ta fit_pure ta_take
theorem ren_pure (ρ : Nat → Nat) (l : List PV) : (l.map AC.pv).map (AC.ren ρ) = l.map AC.pv := by
  rw [List.map_map]; rfl
theorem vT_ren (t : VT) (ρ : Nat → Nat) : (vT t).ren ρ = vT t := by
  show AV.v (.agg (((tc t).map AC.pv).map (AC.ren ρ))) = _
  rw [ren_pure]; rfl
end Go.Proofs.Ythkfdheoakbfnaa.vt
end
section
namespace Go.Proofs.Ythkfdheoakbfnaa.vt
open Go.Proofs.Ythkfdheoakbfnaa.am
set_option linter.unusedVariables false
noncomputable def eqv (p : Lab → Lab → Bool) (t : VT) : VT → Bool := Tr.fold (fun x l bs u => p x u.lab && decide (l.length = u.kids.length) && (bs.zip u.kids).all (fun q => q.1 q.2)) t
def zipA (f : VT → VT → Bool) (l m : List VT) (k : Nat) : Bool := ((l.zip m).take k).all (fun q => f q.1 q.2)
theorem zipA_zero (f : VT → VT → Bool) (l m : List VT) : zipA f l m 0 = true := by simp [zipA]
theorem zipA_succ {f : VT → VT → Bool} {l m : List VT} {k : Nat} {a b : VT} (ha : l[k]? = some a) (hb : m[k]? = some b) : zipA f l m (k + 1) = (zipA f l m k && f a b) := by
  unfold zipA
  rw [List.take_add_one, show (l.zip m)[k]? = some (a, b) from List.getElem?_zip_eq_some.2 ⟨ha, hb⟩]
  simp [List.all_append]
theorem zipA_mono {f : VT → VT → Bool} {l m : List VT} {k : Nat} (j : Nat) (h : zipA f l m k = false) : zipA f l m (k + j) = false := by
  unfold zipA at h ⊢
  rw [List.all_eq_false] at h ⊢
  obtain ⟨q, h1, h2⟩ := h
  refine ⟨q, ?_, h2⟩
  have : (l.zip m).take k <+: (l.zip m).take (k + j) := List.take_prefix_take_left (by omega)
  exact this.subset h1
theorem zip_map_all {α β : Type} (F : α → β → Bool) : ∀ (l : List α) (m : List β), ((l.map F).zip m).all (fun q => q.1 q.2) = (l.zip m).all (fun q => F q.1 q.2)
  | [], m => rfl
  | a :: l, [] => rfl
  | a :: l, b :: m => by simp only [List.map_cons, List.zip_cons_cons, List.all_cons, zip_map_all F l m]
theorem eqv_mk (p : Lab → Lab → Bool) (x y : Lab) (l m : List VT) : eqv p (.mk x l) (.mk y m) = (p x y && decide (l.length = m.length) && zipA (eqv p) l m l.length) := by
  have e : zipA (eqv p) l m l.length = (l.zip m).all (fun q => eqv p q.1 q.2) := by
    unfold zipA
    rw [List.take_of_length_le (l := l.zip m) (by rw [List.length_zip]; exact Nat.min_le_left _ _)]
  rw [e]
  conv => lhs; unfold eqv
  rw [Tr.fold_mk, zip_map_all]
  rfl
def pS (x y : Lab) : Bool := decide (x.k = y.k) && decide (x.n = y.n) && decide (x.s = y.s)
def pP (x y : Lab) : Bool := decide (x.k = y.k) && decide (x.n = y.n) && decide (x.s = y.s) && decide (x.f = y.f) && decide (x.t = y.t)
noncomputable abbrev same (t u : VT) : Bool := eqv pS t u
noncomputable abbrev plac (t u : VT) : Bool := eqv pP t u
theorem zipA_refl {f : VT → VT → Bool} {l : List VT} (h : ∀ y ∈ l, f y y = true) : ∀ k, zipA f l l k = true := fun k => by
  unfold zipA
  rw [List.all_eq_true]
  intro q hq
  have hq := List.mem_of_mem_take hq
  obtain ⟨i, hi⟩ := List.mem_iff_getElem?.1 hq
  obtain ⟨h1, h2⟩ := List.getElem?_zip_eq_some.1 hi
  rw [h1] at h2
  have : q.1 = q.2 := by simpa using h2
  rw [← this]
  exact h _ (List.mem_of_getElem? h1)
theorem eqv_refl {p : Lab → Lab → Bool} (hp : ∀ x, p x x = true) (t : VT) : eqv p t t = true := by
  induction t using Tr.ind with
  | h x l ih => rw [eqv_mk, hp, zipA_refl ih]; simp
theorem plac_refl (t : VT) : plac t t = true := eqv_refl (fun x => by simp [pP]) t
end Go.Proofs.Ythkfdheoakbfnaa.vt
end
section
namespace Go.Proofs.Ythkfdheoakbfnaa.vt
open Go.Proofs.Ythkfdheoakbfnaa.am
set_option linter.unusedVariables false
theorem pig : ∀ (n : Nat) (l : List Int), l.Nodup → (∀ x ∈ l, 0 ≤ x ∧ x < n) → l.length ≤ n
  | 0, l, _, h => by
    cases l with
    | nil => simp
    | cons a l => have := h a (by simp); omega
  | n + 1, l, hn, h => by
    by_cases hm : (n : Int) ∈ l
    · have := pig n (l.erase n) (hn.erase _) (fun x hx => by
        have h1 := (hn.mem_erase_iff).1 hx
        have h2 := h x h1.2
        omega)
      rw [List.length_erase_of_mem hm] at this
      omega
    · have := pig n l hn (fun x hx => by
        have h2 := h x hx
        have : x ≠ n := fun e => hm (e ▸ hx)
        omega)
      omega
end Go.Proofs.Ythkfdheoakbfnaa.vt
end
section
namespace Go.Proofs.Ythkfdheoakbfnaa.vt
open Go.Proofs.Ythkfdheoakbfnaa.am
set_option linter.unusedVariables false
abbrev z0T : VT := .mk ⟨0, 0, ⟨#[]⟩, 0, 0⟩ []
structure InsOk (ml : List VT) (ins : List Int) : Prop where
  nd : ins.Nodup
  rg : ∀ z ∈ ins, 0 ≤ z ∧ z < ml.length
theorem InsOk.nil (ml : List VT) : InsOk ml [] := ⟨by simp, fun z h => by simp at h⟩
theorem InsOk.add {ml : List VT} {ins : List Int} (h : InsOk ml ins) {z : Int} (h0 : 0 ≤ z) (h1 : z < ml.length) (hz : z ∉ ins) : InsOk ml (ins ++ [z]) ∧ ins.length + 1 ≤ ml.length := by
  have hk : InsOk ml (ins ++ [z]) := ⟨List.nodup_append.2 ⟨h.nd, by simp, fun a ha b hb => by simp at hb; subst hb; exact fun e => hz (e ▸ ha)⟩, fun y hy => by
    rcases List.mem_append.1 hy with hy | hy
    · exact h.rg y hy
    · simp at hy; subst hy; exact ⟨h0, h1⟩⟩
  refine ⟨hk, ?_⟩
  have := pig ml.length (ins ++ [z]) hk.nd hk.rg
  simpa using this
end Go.Proofs.Ythkfdheoakbfnaa.vt
end
section
namespace Go.Proofs.Ythkfdheoakbfnaa.vt
open Go.Proofs.Ythkfdheoakbfnaa.am
set_option linter.unusedVariables false
structure SG where
  t : VT
  pl : Int
  er : Int
abbrev LR := List VT × Int × Int
noncomputable def badS (x : Lab) (e : Int) : SG := ⟨z0T, x.f, e⟩
def dcl (ml : List VT) (s : ByteArray) : Option Nat := ml.findIdx? fun d => decide (d.lab.s = s)
def dclI (ml : List VT) (s : ByteArray) : Int := match dcl ml s with
  | some i => (i : Nat)
  | none => -1
def kndI (ml : List VT) (s : ByteArray) : Int := match dcl ml s with
  | some i => (ml.getD i z0T).lab.k
  | none => 0
def locS (L : List ByteArray) (s : ByteArray) : Option Nat := L.reverse.findIdx? fun a => decide (a = s)
noncomputable def namS (ml : List VT) (L : List ByteArray) (x : Lab) : SG := match locS L x.s with
  | some n => ⟨.mk ⟨7, (n : Nat), ⟨#[]⟩, x.f, x.t⟩ [], 0, 0⟩
  | none => if kndI ml x.s = 31 then ⟨.mk ⟨8, dclI ml x.s, ⟨#[]⟩, x.f, x.t⟩ [], 0, 0⟩ else if kndI ml x.s = 32 then ⟨.mk ⟨9, dclI ml x.s, ⟨#[]⟩, x.f, x.t⟩ [], 0, 0⟩ else badS x 8
def moreS (L : List ByteArray) (y : VT) : List ByteArray := if y.lab.k = 20 ∨ y.lab.k = 21 then L ++ [y.lab.s] else L
def outS (ml : List VT) (x : Lab) : Lab := ⟨x.k, if x.k = 16 ∨ x.k = 15 ∨ x.k = 4 then dclI ml x.s else x.n, if x.k = 13 ∨ x.k = 17 then x.s else ⟨#[]⟩, x.f, x.t⟩
def wrgS (ml : List VT) (x : Lab) : Bool := (decide (x.k = 16) && !decide (kndI ml x.s = 33)) || ((decide (x.k = 15) || decide (x.k = 4)) && !decide (kndI ml x.s = 30))
def knwS (x : Lab) (L : List ByteArray) (i : Nat) (kn : List ByteArray) : List ByteArray := if x.k = 25 ∧ i = 2 then L ++ [x.s] else kn
def knxS (x : Lab) (kn : List ByteArray) (y : VT) : List ByteArray := if x.k = 29 then moreS kn y else kn
noncomputable def seqC (ml : List VT) (x : Lab) (L : List ByteArray) : Nat → List (VT × (List ByteArray → SG)) → List ByteArray → List VT → SG
  | _, [], _, acc => ⟨.mk (outS ml x) acc, 0, 0⟩
  | i, p :: r, kn, acc => if (p.2 (knwS x L i kn)).er ≠ 0 then ⟨z0T, (p.2 (knwS x L i kn)).pl, (p.2 (knwS x L i kn)).er⟩ else seqC ml x L (i + 1) r (knxS x (knwS x L i kn) p.1) (acc ++ [(p.2 (knwS x L i kn)).t])
noncomputable def anyC (ml : List VT) (x : Lab) (l : List VT) (fs : List (List ByteArray → SG)) (L : List ByteArray) : SG :=
  if x.k = 19 then namS ml L x else if wrgS ml x = true then badS x 8 else seqC ml x L 0 (l.zip fs) L []
noncomputable def anyT (ml : List VT) (t : VT) : List ByteArray → SG := Tr.fold (anyC ml) t
noncomputable def seqT (ml : List VT) (x : Lab) (L : List ByteArray) : Nat → List VT → List ByteArray → List VT → SG
  | _, [], _, acc => ⟨.mk (outS ml x) acc, 0, 0⟩
  | i, y :: r, kn, acc => if (anyT ml y (knwS x L i kn)).er ≠ 0 then ⟨z0T, (anyT ml y (knwS x L i kn)).pl, (anyT ml y (knwS x L i kn)).er⟩ else seqT ml x L (i + 1) r (knxS x (knwS x L i kn) y) (acc ++ [(anyT ml y (knwS x L i kn)).t])
theorem seqC_eq (ml : List VT) (x : Lab) (L : List ByteArray) : ∀ (l : List VT) (i : Nat) (kn : List ByteArray) (acc : List VT), seqC ml x L i (l.zip (l.map (anyT ml))) kn acc = seqT ml x L i l kn acc
  | [], i, kn, acc => rfl
  | y :: r, i, kn, acc => by
    rw [List.map_cons, List.zip_cons_cons]
    unfold seqC seqT
    dsimp only
    split
    · rfl
    · exact seqC_eq ml x L r _ _ _
theorem anyT_mk (ml : List VT) (x : Lab) (l : List VT) (L : List ByteArray) : anyT ml (.mk x l) L = if x.k = 19 then namS ml L x else if wrgS ml x = true then badS x 8 else seqT ml x L 0 l L [] := by
  have h : anyT ml (.mk x l) L = anyC ml x l (l.map (anyT ml)) L := by unfold anyT; rw [Tr.fold_mk]
  rw [h]
  show (if x.k = 19 then namS ml L x else if wrgS ml x = true then badS x 8 else seqC ml x L 0 (l.zip (l.map (anyT ml))) L []) = _
  rw [seqC_eq]
theorem seqT_pl (ml : List VT) (x : Lab) (L : List ByteArray) : ∀ (l : List VT) (i : Nat) (kn : List ByteArray) (acc : List VT), (seqT ml x L i l kn acc).er = 0 → (seqT ml x L i l kn acc).pl = 0
  | [], i, kn, acc, _ => rfl
  | y :: r, i, kn, acc, h => by
    unfold seqT at h ⊢
    split
    · rename_i c; rw [if_pos c] at h; exact absurd h c
    · rename_i c; rw [if_neg c] at h; exact seqT_pl ml x L r _ _ _ h
theorem any_pl (ml : List VT) (t : VT) (L : List ByteArray) (h : (anyT ml t L).er = 0) : (anyT ml t L).pl = 0 := by
  obtain ⟨x, l⟩ := t
  rw [anyT_mk] at h ⊢
  split
  · rename_i c
    rw [if_pos c] at h
    unfold namS at h ⊢
    split
    · rfl
    · rename_i e
      rw [e] at h
      dsimp only at h
      split
      · rfl
      · rename_i k1
        rw [if_neg k1] at h
        split
        · rfl
        · rename_i k2; rw [if_neg k2] at h; exact absurd (show (8 : Int) = 0 from h) (by decide)
  · rename_i c
    rw [if_neg c] at h
    split
    · rename_i d; rw [if_pos d] at h; exact absurd (show (8 : Int) = 0 from h) (by decide)
    · rename_i d; rw [if_neg d] at h; exact seqT_pl ml x L _ _ _ _ h
noncomputable def lstT (ml : List VT) (L : List ByteArray) : List VT → LR
  | [] => ([], 0, 0)
  | y :: r => if (anyT ml y L).er ≠ 0 then ([], (anyT ml y L).pl, (anyT ml y L).er) else if (lstT ml L r).2.2 ≠ 0 then ([], (lstT ml L r).2) else ((anyT ml y L).t :: (lstT ml L r).1, 0, 0)
theorem lstT_pl (ml : List VT) (L : List ByteArray) : ∀ l : List VT, (lstT ml L l).2.2 = 0 → (lstT ml L l).2.1 = 0
  | [], _ => rfl
  | y :: r, h => by
    unfold lstT at h ⊢
    split
    · rename_i c; rw [if_pos c] at h; exact absurd h c
    · rename_i c; rw [if_neg c] at h
      split
      · rename_i d; rw [if_pos d] at h; exact absurd h d
      · rfl
noncomputable def blkS (ml : List VT) : List ByteArray → List VT → LR
  | _, [] => ([], 0, 0)
  | L, y :: r => if (anyT ml y L).er ≠ 0 then ([], (anyT ml y L).pl, (anyT ml y L).er) else if (blkS ml (moreS L y) r).2.2 ≠ 0 then ([], (blkS ml (moreS L y) r).2) else ((anyT ml y L).t :: (blkS ml (moreS L y) r).1, 0, 0)
theorem blkS_pl (ml : List VT) : ∀ (l : List VT) (L : List ByteArray), (blkS ml L l).2.2 = 0 → (blkS ml L l).2.1 = 0
  | [], _, _ => rfl
  | y :: r, L, h => by
    unfold blkS at h ⊢
    split
    · rename_i c; rw [if_pos c] at h; exact absurd h c
    · rename_i c; rw [if_neg c] at h
      split
      · rename_i d; rw [if_pos d] at h; exact absurd h d
      · rfl
def thn (a b : LR) : LR := if a.2.2 ≠ 0 then ([], a.2) else if b.2.2 ≠ 0 then ([], b.2) else (a.1 ++ b.1, 0, 0)
noncomputable def wrpS (x : Lab) (acc : List VT) (g : LR) : SG := if g.2.2 ≠ 0 then ⟨z0T, g.2.1, g.2.2⟩ else ⟨.mk x (acc ++ g.1), 0, 0⟩
theorem seqT_lst (ml : List VT) (x : Lab) (L : List ByteArray) (h29 : x.k ≠ 29) : ∀ (l : List VT) (i : Nat) (kn : List ByteArray) (acc : List VT), (x.k = 25 → 3 ≤ i) → seqT ml x L i l kn acc = wrpS (outS ml x) acc (lstT ml kn l)
  | [], i, kn, acc, h => by unfold seqT lstT wrpS; simp
  | y :: r, i, kn, acc, h => by
    have e1 : knwS x L i kn = kn := by
      unfold knwS
      rw [if_neg]
      rintro ⟨a, b⟩
      have := h a
      omega
    have e2 : ∀ k, knxS x k y = k := fun k => by unfold knxS; rw [if_neg h29]
    unfold seqT lstT
    rw [e1, e2]
    by_cases c : (anyT ml y kn).er = 0
    · rw [if_neg (by simpa using c), if_neg (by simpa using c), seqT_lst ml x L h29 r (i + 1) kn _ (fun a => by have := h a; omega)]
      unfold wrpS
      by_cases d : (lstT ml kn r).2.2 = 0 <;> simp [d]
    · rw [if_pos c, if_pos c]; unfold wrpS; simp [c]
theorem seqT_for (ml : List VT) (x : Lab) (L : List ByteArray) (h25 : x.k = 25) : ∀ l : List VT, seqT ml x L 0 l L [] = wrpS (outS ml x) [] (thn (lstT ml L (l.take 2)) (lstT ml (L ++ [x.s]) (l.drop 2)))
  | [] => by unfold seqT wrpS thn lstT; simp
  | [a] => by
    have k0 : knwS x L 0 L = L := by unfold knwS; rw [if_neg (by simp)]
    have e2 : ∀ k y, knxS x k y = k := fun k y => by unfold knxS; rw [if_neg (by omega)]
    simp only [seqT, k0, e2, List.take, List.drop, lstT, thn, wrpS]
    by_cases c : (anyT ml a L).er = 0 <;> simp [c]
  | a :: b :: r => by
    have k0 : knwS x L 0 L = L := by unfold knwS; rw [if_neg (by simp)]
    have k1 : knwS x L 1 L = L := by unfold knwS; rw [if_neg (by simp)]
    have e2 : ∀ k y, knxS x k y = k := fun k y => by unfold knxS; rw [if_neg (by omega)]
    have h3 : ∀ acc, seqT ml x L 2 r L acc = wrpS (outS ml x) acc (lstT ml (L ++ [x.s]) r) := fun acc => by
      cases r with
      | nil => unfold seqT lstT wrpS; simp
      | cons c r =>
        have k2 : knwS x L 2 L = L ++ [x.s] := by unfold knwS; rw [if_pos ⟨h25, rfl⟩]
        unfold seqT lstT
        rw [k2, e2]
        by_cases q : (anyT ml c (L ++ [x.s])).er = 0
        · rw [if_neg (by simpa using q), if_neg (by simpa using q), seqT_lst ml x L (by omega) r 3 _ _ (fun _ => by omega)]
          unfold wrpS
          by_cases d : (lstT ml (L ++ [x.s]) r).2.2 = 0 <;> simp [d]
        · rw [if_pos q, if_pos q]; unfold wrpS; simp [q]
    rw [show (a :: b :: r).take 2 = [a, b] from rfl, show (a :: b :: r).drop 2 = r from rfl]
    unfold seqT
    rw [k0, e2]
    by_cases c : (anyT ml a L).er = 0
    · rw [if_neg (by simpa using c)]
      unfold seqT
      rw [k1, e2]
      by_cases d : (anyT ml b L).er = 0
      · rw [if_neg (by simpa using d), h3]
        simp only [lstT, thn, wrpS, c, d]
        by_cases q : (lstT ml (L ++ [x.s]) r).2.2 = 0 <;> simp [q]
      · rw [if_pos d]; simp [lstT, thn, wrpS, c, d]
    · rw [if_pos c]; simp [lstT, thn, wrpS, c]
theorem seqT_blk (ml : List VT) (x : Lab) (L : List ByteArray) (h29 : x.k = 29) : ∀ (l : List VT) (i : Nat) (kn : List ByteArray) (acc : List VT), seqT ml x L i l kn acc = wrpS (outS ml x) acc (blkS ml kn l)
  | [], i, kn, acc => by unfold seqT blkS wrpS; simp
  | y :: r, i, kn, acc => by
    have e1 : knwS x L i kn = kn := by unfold knwS; rw [if_neg (by omega)]
    have e2 : knxS x kn y = moreS kn y := by unfold knxS; rw [if_pos h29]
    unfold seqT blkS
    rw [e1, e2]
    by_cases c : (anyT ml y kn).er = 0
    · rw [if_neg (by simpa using c), if_neg (by simpa using c), seqT_blk ml x L h29 r (i + 1) _ _]
      unfold wrpS
      by_cases d : (blkS ml (moreS kn y) r).2.2 = 0 <;> simp [d]
    · rw [if_pos c, if_pos c]; unfold wrpS; simp [c]
noncomputable def keepS (keep : Bool) (g : VT) (s : ByteArray) : VT := if keep = true then .mk { g.lab with s := s } g.kids else g
def hasS (seen : List ByteArray) (s : ByteArray) : Bool := seen.any fun a => decide (a = s)
noncomputable def prtS (ml : List VT) (keep : Bool) (seen : List ByteArray) : List VT → LR
  | [] => ([], 0, 0)
  | y :: r => if hasS seen y.lab.s = true then ([], y.lab.f, 9) else if (anyT ml y []).er ≠ 0 then ([], (anyT ml y []).pl, (anyT ml y []).er) else if (prtS ml keep (seen ++ [y.lab.s]) r).2.2 ≠ 0 then ([], (prtS ml keep (seen ++ [y.lab.s]) r).2) else (keepS keep (anyT ml y []).t y.lab.s :: (prtS ml keep (seen ++ [y.lab.s]) r).1, 0, 0)
noncomputable def fnS (ml : List VT) (x : Lab) (p : Lab) (pl : List VT) (r b : VT) : SG :=
  if (prtS ml false [] pl).2.2 ≠ 0 then ⟨z0T, (prtS ml false [] pl).2.1, (prtS ml false [] pl).2.2⟩
  else if (anyT ml r []).er ≠ 0 then ⟨z0T, (anyT ml r []).pl, (anyT ml r []).er⟩
  else if (anyT ml b (pl.map (·.lab.s))).er ≠ 0 then ⟨z0T, (anyT ml b (pl.map (·.lab.s))).pl, (anyT ml b (pl.map (·.lab.s))).er⟩
  else ⟨.mk ⟨x.k, x.n, ⟨#[]⟩, x.f, x.t⟩ [.mk ⟨p.k, 0, ⟨#[]⟩, p.f, p.t⟩ (prtS ml false [] pl).1, (anyT ml r []).t, (anyT ml b (pl.map (·.lab.s))).t], 0, 0⟩
noncomputable def decS (ml : List VT) (t : VT) : SG :=
  if t.lab.k = 30 then wrpS ⟨t.lab.k, t.lab.n, ⟨#[]⟩, t.lab.f, t.lab.t⟩ [] (prtS ml true [] t.kids)
  else if t.lab.k = 33 then fnS ml t.lab (t.kids.getD 0 z0T).lab (t.kids.getD 0 z0T).kids (t.kids.getD 1 z0T) (t.kids.getD 2 z0T)
  else anyT ml t []
noncomputable def decsS (ml : List VT) : List VT → LR
  | [] => ([], 0, 0)
  | y :: r => if (decS ml y).er ≠ 0 then ([], (decS ml y).pl, (decS ml y).er) else if (decsS ml r).2.2 ≠ 0 then ([], (decsS ml r).2) else ((decS ml y).t :: (decsS ml r).1, 0, 0)
def twcS (seen : List ByteArray) : List VT → Option Int
  | [] => none
  | y :: r => if hasS seen y.lab.s = true then some y.lab.f else twcS (seen ++ [y.lab.s]) r
noncomputable def resS (x : Lab) (ml : List VT) : SG := match twcS [] ml with
  | some f => ⟨z0T, f, 9⟩
  | none => wrpS ⟨x.k, x.n, ⟨#[]⟩, x.f, x.t⟩ [] (decsS ml ml)
theorem lstT_snoc (ml : List VT) (L : List ByteArray) (y : VT) : ∀ l : List VT, lstT ml L (l ++ [y]) = if (lstT ml L l).2.2 ≠ 0 then ([], (lstT ml L l).2) else if (anyT ml y L).er ≠ 0 then ([], (anyT ml y L).pl, (anyT ml y L).er) else ((lstT ml L l).1 ++ [(anyT ml y L).t], 0, 0)
  | [] => by
    simp only [List.nil_append, lstT]
    by_cases c : (anyT ml y L).er = 0 <;> simp [c]
  | z :: l => by
    rw [List.cons_append]
    unfold lstT
    rw [lstT_snoc ml L y l]
    by_cases a : (anyT ml z L).er = 0
    · by_cases b : (lstT ml L l).2.2 = 0
      · by_cases c : (anyT ml y L).er = 0 <;> simp [a, b, c]
      · simp [a, b]
    · simp [a]
def brgS (L : List ByteArray) (l : List VT) : List ByteArray := l.foldl moreS L
theorem brgS_snoc (L : List ByteArray) (l : List VT) (y : VT) : brgS L (l ++ [y]) = moreS (brgS L l) y := by unfold brgS; rw [List.foldl_append]; rfl
theorem brgS_pre : ∀ (l : List VT) (L : List ByteArray), (brgS L l).take L.length = L ∧ L.length ≤ (brgS L l).length ∧ (brgS L l).length ≤ L.length + l.length
  | [], L => ⟨by simp [brgS], Nat.le_refl _, by simp [brgS]⟩
  | y :: l, L => by
    obtain ⟨h1, h2, h3⟩ := brgS_pre l (moreS L y)
    have hb : brgS L (y :: l) = brgS (moreS L y) l := rfl
    rw [hb]
    have hm : (moreS L y).take L.length = L ∧ L.length ≤ (moreS L y).length ∧ (moreS L y).length ≤ L.length + 1 := by
      unfold moreS; split <;> simp
    refine ⟨?_, by omega, by simp only [List.length_cons]; omega⟩
    have := congrArg (List.take L.length) h1
    rw [List.take_take, Nat.min_eq_left hm.2.1, hm.1] at this
    exact this
theorem blkS_snoc (ml : List VT) (y : VT) : ∀ (l : List VT) (L : List ByteArray), blkS ml L (l ++ [y]) = if (blkS ml L l).2.2 ≠ 0 then ([], (blkS ml L l).2) else if (anyT ml y (brgS L l)).er ≠ 0 then ([], (anyT ml y (brgS L l)).pl, (anyT ml y (brgS L l)).er) else ((blkS ml L l).1 ++ [(anyT ml y (brgS L l)).t], 0, 0)
  | [], L => by
    simp only [List.nil_append, blkS, brgS, List.foldl_nil]
    by_cases c : (anyT ml y L).er = 0 <;> simp [c]
  | z :: l, L => by
    rw [List.cons_append]
    have hb : brgS L (z :: l) = brgS (moreS L z) l := rfl
    unfold blkS
    rw [blkS_snoc ml y l, hb]
    by_cases a : (anyT ml z L).er = 0
    · by_cases b : (blkS ml (moreS L z) l).2.2 = 0
      · by_cases c : (anyT ml y (brgS (moreS L z) l)).er = 0 <;> simp [a, b, c]
      · simp [a, b]
    · simp [a]
theorem prtS_snoc (ml : List VT) (keep : Bool) (y : VT) : ∀ (l : List VT) (seen : List ByteArray), prtS ml keep seen (l ++ [y]) = if (prtS ml keep seen l).2.2 ≠ 0 then ([], (prtS ml keep seen l).2) else if hasS (seen ++ l.map (·.lab.s)) y.lab.s = true then ([], y.lab.f, 9) else if (anyT ml y []).er ≠ 0 then ([], (anyT ml y []).pl, (anyT ml y []).er) else ((prtS ml keep seen l).1 ++ [keepS keep (anyT ml y []).t y.lab.s], 0, 0)
  | [], seen => by
    simp only [List.nil_append, prtS, List.map_nil, List.append_nil]
    by_cases d : hasS seen y.lab.s = true
    · simp [d]
    · by_cases c : (anyT ml y []).er = 0 <;> simp [c, d]
  | z :: l, seen => by
    rw [List.cons_append]
    unfold prtS
    rw [prtS_snoc ml keep y l, List.map_cons, show seen ++ z.lab.s :: l.map (·.lab.s) = (seen ++ [z.lab.s]) ++ l.map (·.lab.s) by simp]
    generalize hasS (seen ++ [z.lab.s] ++ l.map (·.lab.s)) y.lab.s = e
    by_cases d : hasS seen z.lab.s = true
    · simp [d]
    · by_cases a : (anyT ml z []).er = 0
      · by_cases b : (prtS ml keep (seen ++ [z.lab.s]) l).2.2 = 0
        · cases e
          · by_cases c : (anyT ml y []).er = 0 <;> simp [d, a, b, c]
          · simp [d, a, b]
        · simp [d, a, b]
      · simp [d, a]
theorem decsS_snoc (ml : List VT) (y : VT) : ∀ l : List VT, decsS ml (l ++ [y]) = if (decsS ml l).2.2 ≠ 0 then ([], (decsS ml l).2) else if (decS ml y).er ≠ 0 then ([], (decS ml y).pl, (decS ml y).er) else ((decsS ml l).1 ++ [(decS ml y).t], 0, 0)
  | [] => by
    simp only [List.nil_append, decsS]
    by_cases c : (decS ml y).er = 0 <;> simp [c]
  | z :: l => by
    rw [List.cons_append]
    unfold decsS
    rw [decsS_snoc ml y l]
    by_cases a : (decS ml z).er = 0
    · by_cases b : (decsS ml l).2.2 = 0
      · by_cases c : (decS ml y).er = 0 <;> simp [a, b, c]
      · simp [a, b]
    · simp [a]
theorem twcS_snoc (y : VT) : ∀ (l : List VT) (seen : List ByteArray), twcS seen (l ++ [y]) = match twcS seen l with
    | some f => some f
    | none => if hasS (seen ++ l.map (·.lab.s)) y.lab.s = true then some y.lab.f else none
  | [], seen => by simp [twcS]
  | z :: l, seen => by
    rw [List.cons_append]
    unfold twcS
    rw [twcS_snoc y l, List.map_cons, show seen ++ z.lab.s :: l.map (·.lab.s) = (seen ++ [z.lab.s]) ++ l.map (·.lab.s) by simp]
    generalize hasS (seen ++ [z.lab.s] ++ l.map (·.lab.s)) y.lab.s = e
    by_cases d : hasS seen z.lab.s = true <;> simp [d]
noncomputable def scpT (t : VT) : Prop := Tr.fold (fun x l b => (x.k = 33 → l = []) ∧ (x.k = 19 → l = []) ∧ ∀ q ∈ b, q) t
theorem scpT_mk (x : Lab) (l : List VT) : scpT (.mk x l) ↔ (x.k = 33 → l = []) ∧ (x.k = 19 → l = []) ∧ ∀ y ∈ l, scpT y := by
  unfold scpT
  rw [Tr.fold_mk]
  constructor
  · rintro ⟨h1, h2, h3⟩; exact ⟨h1, h2, fun y hy => h3 _ (List.mem_map_of_mem hy)⟩
  · rintro ⟨h1, h2, h3⟩; refine ⟨h1, h2, fun q hq => ?_⟩
    obtain ⟨y, hy, rfl⟩ := List.mem_map.1 hq
    exact h3 y hy
def scpP (q : VT) : Prop := q.lab.k = 34 ∧ ∀ y ∈ q.kids, scpT y
def scpD (d : VT) : Prop :=
  if d.lab.k = 30 then ∀ q ∈ d.kids, scpP q
  else if d.lab.k = 33 then ∃ p pl r b, d.kids = [.mk p pl, r, b] ∧ p.k = 35 ∧ p.n = 0 ∧ (∀ q ∈ pl, scpP q) ∧ scpT r ∧ scpT b
  else scpT d
end Go.Proofs.Ythkfdheoakbfnaa.vt
end
section
namespace Go.Proofs.Ythkfdheoakbfnaa.am
open Go.ChangeShapes Go.WideShapes Go.ChangeAt Go.RowKit
set_option linter.unusedVariables false
set_option linter.unusedSimpArgs false
theorem cg {P : Program} {N f : Nat} {dst : Option Nat} {first caps : List Cap} {args cargs : List AV} {ch : List AO} {ch' : List (Option AO)} {res : AV} {st : St} {K : St → Prop} (hrow : Row P f cargs ch res ch') (σ : List Nat) (hk : K ((st.wr (wrs (nmap σ ch.length st.nx) 0 ch') 8).put dst (res.ren (nmap σ ch.length st.nx)))) (hfit : fitVs ch.length (fun i => σ.getD i 0) cargs (first.map capV ++ args ++ caps.map capV) := by first | (simp [*]; done) | fail) (ho : covO (hlk st.hp) ch.length (fun i => σ.getD i 0) (ch.map some) σ := by first | (simp [*]; done) | fail) (hnd : σ.Nodup := by first | decide | (simp; done) | fail) (hl : ch'.length ≤ ch.length + 8 := by first | decide | (simp; done) | fail) (hl' : ch.length ≤ ch'.length := by first | decide | (simp; done) | fail) (hd : dok N dst = true := by rfl) :
    CallK P N dst (.v (.c (.fn (.func f) first caps))) args st K := ⟨f, first, caps, cargs, ch, res, ch', σ, rfl, hrow, hfit, ho, hnd, hl, hl', hd, hk⟩
theorem dg {P : Program} {N f : Nat} {dst : Option Nat} {first caps : List Cap} {args cargs : List AV} {ch : List AO} {ch' : List (Option AO)} {res : AV} {st : St} {K : List Nat → List Nat → St → Prop} (hrow : Row P f cargs ch res ch') (σ : List Nat) (hk : K σ ((wrs (nmap σ ch.length st.nx) 0 ch').map (·.1)) ((st.wr (wrs (nmap σ ch.length st.nx) 0 ch') 8).put dst (res.ren (nmap σ ch.length st.nx)))) (hfit : fitVs ch.length (fun i => σ.getD i 0) cargs (first.map capV ++ args ++ caps.map capV) := by first | (simp [*]; done) | fail) (ho : covO (hlk st.hp) ch.length (fun i => σ.getD i 0) (ch.map some) σ := by first | (simp [*]; done) | fail) (hnd : σ.Nodup := by first | decide | (simp; done) | fail) (hl : ch'.length ≤ ch.length + 8 := by first | decide | (simp; done) | fail) (hl' : ch.length ≤ ch'.length := by first | decide | (simp; done) | fail) (hd : dok N dst = true := by rfl) :
    CallD P N dst (.v (.c (.fn (.func f) first caps))) args st K := ⟨f, first, caps, cargs, ch, res, ch', σ, rfl, hrow, hfit, ho, hnd, hl, hl', hd, hk⟩
attribute [simp] wrs nmap AC.ren AT.ren AV.ren AO.ren Cap.ren
def FinG (P : Program) (rs : List ResultVar) (res : AV) (ch' : List (Option AO)) (r : List Nat) (st : St) : Prop :=
  match resV P st rs with
  | some x => fitV ch'.length (fun i => r.getD i 0) res x ∧ covO (hlk st.hp) ch'.length (fun i => r.getD i 0) ch' r
  | none => False
theorem fin_g {P : Program} {nb : Nat} {rs : List ResultVar} {res : AV} {ch' : List (Option AO)} {st : St} (r : List Nat) (h : FinG P rs res ch' r st) (hnd : r.Nodup := by first | decide | (simp; done)) (ht : r.take nb = List.range nb := by rfl) (hl : nb ≤ ch'.length := by first | decide | (simp; done)) : Fin P nb rs res ch' .ret st := by
  unfold FinG at h
  split at h
  · rename_i x hx; exact ⟨x, r, hx, h.1, h.2, hnd, ht, hl⟩
  · exact h.elim
section
variable {X : Ctx} {H : Nat → Option AO} {U : Nat → Prop} {γ : Nat → G} {S : CS} {w : World}
theorem Mem.nilarr (h : Mem X H U γ S w) {nm : Nat} (hn : U nm) (e : TypeId) (es : Nat) : Mem X (upd H nm (some (.arr e es []))) (fun x => U x ∧ x ≠ nm) (upd γ nm (.val (.slice none 0 0))) S w := by
  have m := h.nilrow hn e es
  refine { m with off := fun x hx => ?_, obj := fun x o hx => ?_ }
  · by_cases h1 : x = nm
    · subst h1; rw [upd_same] at hx; cases hx
    · rw [upd_ne _ _ h1] at hx; exact m.off x (by rw [upd_ne _ _ h1]; exact hx)
  · by_cases h1 : x = nm
    · subst h1; rw [upd_same] at hx; cases hx
      exact ⟨_, [], upd_same _ _ _, World.ownsRow_nil w 0 e es, fun i e j p h => by simp at h, fun e h => by simp at h, fun b hb => by cases hb⟩
    · rw [upd_ne _ _ h1] at hx; exact m.obj x o (by rw [upd_ne _ _ h1]; exact hx)
theorem nil_arr_rep {γ' : Nat → G} {v : Value} {nm es : Nat} (h : RepV γ S w v (.v (.c (.pv .nilS)))) (hg : γ' nm = .val (.slice none 0 0)) : RepC γ' S w v (.arr nm es 0) := by
  obtain rfl := nilS_inv h
  exact ⟨⟨none, 0, rfl⟩, .inr hg⟩
def AC.frz (id : Nat) (p : PV) : AC → AC
  | .arr i es n => if i = id then .pv p else .arr i es n
  | .vw i es lo n => if i = id then (match p with | .sl es' l => if es' = es ∧ lo + n ≤ l.length ∧ (lo = 0 ∨ 0 < n) then .pv (.sl es ((l.drop lo).take n)) else .top | _ => .top) else .vw i es lo n
  | c => c
def AT.frz (id : Nat) (p : PV) : AT → AT
  | .c x => .c (x.frz id p)
  | .agg l => .agg (l.map (AC.frz id p))
def AV.frz (id : Nat) (p : PV) : AV → AV
  | .v x => .v (x.frz id p)
  | .ep i es k o => if i = id then .top else .ep i es k o
  | .tup l => .tup (l.map (AT.frz id p))
  | x => x
def AO.frz (id : Nat) (p : PV) : AO → AO
  | .box l => .box (l.map (AC.frz id p))
  | o => o
theorem RepC.frz {γ' : Nat → G} {id : Nat} {p : PV} {v0 : Value} (hg : γ id = .val v0) (hp : RepP S w v0 p) (hγ : γ' = upd γ id .dead) (hG : GOn γ γ') {v : Value} {c : AC} (h : RepC γ S w v c) : RepC γ' S w v (c.frz id p) := by
  have hm : ∀ {c}, RepC γ S w v c → RepC γ' S w v c := fun h => h.mono hG (fun _ _ h => h) (fun _ _ _ => rfl)
  cases c with
  | arr i es n =>
    show RepC γ' S w v (if i = id then .pv p else .arr i es n)
    by_cases hi : i = id
    · rw [if_pos hi]
      subst hi
      rcases h.2 with k | k
      · rw [hg] at k; cases k
      · rw [hg] at k; cases k; exact hp
    · rw [if_neg hi]; exact hm h
  | vw i es lo n =>
    have h1 := h.one
    by_cases hi : i = id
    · subst hi
      unfold AC.frz
      dsimp only
      rw [if_pos rfl]
      split
      · rename_i es' l
        split
        · rename_i hc
          obtain ⟨rfl, hc, hd⟩ := hc
          obtain ⟨a, m, c, hx, a1, hl1, hl2, ha1, rfl⟩ := h
          rcases hx with k | k
          · rw [hg] at k; cases k
          rw [hg] at k; cases k
          obtain ⟨a2, c2, e2, hs⟩ := sl_inv hp
          injection e2 with q1 q2 q3
          subst q1 q2 q3
          have hln : ((l.drop lo).take n).length = n := by rw [List.length_take, List.length_drop]; omega
          have key := hs.part lo (lo + n) c (by omega) (by omega) (Nat.le_refl _) (by omega)
          have e3 : (l.take (lo + n)).drop lo = (l.drop lo).take n := by rw [List.drop_take]; congr 1; omega
          rw [e3] at key
          have key := sl_intro key
          rw [hln] at key
          rcases hd with hd | hd
          · subst hd
            have hz0 : ∀ z : Addr, z.add 0 = z := fun z => by unfold Addr.add; split <;> simp_all
            have e4 : a1 = a := by rw [ha1 (.inl rfl)]; cases a <;> simp [hz0]
            rw [e4]
            have e5 : (if c = 0 then a else a.map (·.add (0 * es'))) = a := by
              split
              · rfl
              · cases a <;> simp [hz0]
            rw [e5] at key
            exact key
          · rw [ha1 (.inr hd)]
            rw [if_neg (by omega)] at key
            exact key
        · exact h1
      · exact h1
    · unfold AC.frz
      dsimp only
      rw [if_neg hi]; exact hm h
  | _ => exact hm h
theorem RepCs.frz {γ' : Nat → G} {id : Nat} {p : PV} {v0 : Value} (hg : γ id = .val v0) (hp : RepP S w v0 p) (hγ : γ' = upd γ id .dead) (hG : GOn γ γ') {vs : List Value} {l : List AC} (h : RepCs γ S w vs l) : RepCs γ' S w vs (l.map (AC.frz id p)) := by
  refine ⟨by rw [List.length_map]; exact h.1, fun i c hi => ?_⟩
  obtain ⟨x, hx, rfl⟩ := map_at hi
  obtain ⟨v, h1, h2⟩ := h.2 i x hx
  exact ⟨v, h1, h2.frz hg hp hγ hG⟩
theorem RepT.frz {γ' : Nat → G} {id : Nat} {p : PV} {v0 : Value} (hg : γ id = .val v0) (hp : RepP S w v0 p) (hγ : γ' = upd γ id .dead) (hG : GOn γ γ') {v : Value} {c : AT} (h : RepT γ S w v c) : RepT γ' S w v (c.frz id p) := by
  cases c with
  | c x => exact RepC.frz hg hp hγ hG h
  | agg l => obtain ⟨cs, h1, h2⟩ := h; exact ⟨cs, h1, h2.frz hg hp hγ hG⟩
theorem RepV.frz {γ' : Nat → G} {id : Nat} {p : PV} {v0 : Value} (hg : γ id = .val v0) (hp : RepP S w v0 p) (hγ : γ' = upd γ id .dead) (hG : GOn γ γ') {v : Value} {c : AV} (h : RepV γ S w v c) : RepV γ' S w v (c.frz id p) := by
  cases c with
  | v x => exact RepT.frz hg hp hγ hG h
  | tup l =>
    obtain ⟨cs, h1, h2⟩ := h
    refine ⟨cs, h1, by rw [List.length_map]; exact h2.1, fun i c hi => ?_⟩
    obtain ⟨x, hx, rfl⟩ := map_at hi
    obtain ⟨v, h3, h4⟩ := h2.2 i x hx
    exact ⟨v, h3, h4.frz hg hp hγ hG⟩
  | ep i es k o =>
    show RepV γ' S w v (if i = id then .top else .ep i es k o)
    by_cases hi : i = id
    · rw [if_pos hi]; trivial
    · rw [if_neg hi]; exact RepV.mono hG (fun _ _ h => h) (fun _ _ _ => rfl) h
  | rp c o => exact h
  | top => trivial
theorem Mem.freeze (h : Mem X H U γ S w) {id : Nat} {e : TypeId} {es : Nat} {l : List (List PV)} (hH : H id = some (.arr e es l)) :
    ∃ (S' : CS) (v0 : Value), (∀ b o, S b o → S' b o) ∧ γ id = .val v0 ∧ RepP S' w v0 (.sl es l) ∧ Mem X (fun x => if x = id then none else (H x).map (AO.frz id (.sl es l))) U (upd γ id .dead) S' w := by
  obtain ⟨v0, xs, g1, g2, g3, g5, g4⟩ := h.obj _ _ hH
  have hG := GOn.kill g1
  have hown : ∀ b, v0.ownBlock = some b → (γ id).bk = some b := fun b hb => by rw [g1]; exact hb
  refine ⟨fun b o => S b o ∨ (v0.ownBlock = some b ∧ o < l.length * es), v0, fun _ _ h => .inl h, g1, ?_, ?_⟩
  · rcases g2.2 with ⟨k1, k2⟩ | ⟨g, cap, cur, k1, _, k3, k4, k5, k6, k7⟩
    · subst k1
      have : l = [] := List.length_eq_zero_iff.1 k2
      subst this
      exact .emp none 0 es (by decide) (fun _ => rfl)
    · subst k1
      refine sl_of_block (xs := xs) g5 ((arr_ps g2 g3 g5).mono (fun _ _ h => .inl h) (fun _ _ _ => rfl)) k4 (by unfold maxLen at k5; omega) (fun k u hk => ?_)
      have hk1 : k < l.length * es := by have := (List.getElem?_eq_some_iff.1 hk).1; rw [g2.1] at this; exact this
      refine ⟨.inr ⟨rfl, hk1⟩, ?_⟩
      rw [cell_row k3, ← hk, ← k7, List.getElem?_take, if_pos hk1]
  · have hmk := h.kill g1
    have hobk : ∀ b o, (S b o ∨ (v0.ownBlock = some b ∧ o < l.length * es)) → ∀ x, x ≠ id → (γ x).bk = some b → S b o := fun b o hs x hx hb => hs.elim (fun h => h) (fun hs => (h.dist x id hx b hb (hown b hs.1)).elim)
    have hvS : RepP (fun b o => S b o ∨ (v0.ownBlock = some b ∧ o < l.length * es)) w v0 (.sl es l) := by
      rcases g2.2 with ⟨k1, k2⟩ | ⟨g, cap, cur, k1, _, k3, k4, k5, k6, k7⟩
      · subst k1
        have : l = [] := List.length_eq_zero_iff.1 k2
        subst this
        exact .emp none 0 es (by decide) (fun _ => rfl)
      · subst k1
        refine sl_of_block (xs := xs) g5 ((arr_ps g2 g3 g5).mono (fun _ _ h => .inl h) (fun _ _ _ => rfl)) k4 (by unfold maxLen at k5; omega) (fun k u hk => ?_)
        have hk1 : k < l.length * es := by have := (List.getElem?_eq_some_iff.1 hk).1; rw [g2.1] at this; exact this
        refine ⟨.inr ⟨rfl, hk1⟩, ?_⟩
        rw [cell_row k3, ← hk, ← k7, List.getElem?_take, if_pos hk1]
    refine ⟨hmk.os, hmk.tape, hmk.output, hmk.size, hmk.frame, fun b o hs => ⟨.inl (h.keep b o hs).1, (h.keep b o hs).2⟩, fun b o hs => ?_, fun b o hs => ?_, hmk.mono, hmk.un, fun x hx => ?_, fun x o hx => ?_, hmk.dist, hmk.live⟩
    · rcases hs with hs | ⟨hs, _⟩
      · exact h.fresh b o hs
      · exact .inr (h.live id b (hown b hs)).2
    · rcases hs with hs | ⟨hs, _⟩
      · exact h.inb b o hs
      · exact (h.live id b (hown b hs)).1
    · by_cases hxi : x = id
      · subst hxi; exact .inr (upd_same _ _ _)
      · rw [if_neg hxi] at hx
        rw [upd_ne _ _ hxi]
        exact h.off x (Option.map_eq_none_iff.1 hx)
    · by_cases hxi : x = id
      · rw [if_pos hxi] at hx; cases hx
      · rw [if_neg hxi] at hx
        obtain ⟨o0, ho0, rfl⟩ := Option.map_eq_some_iff.1 hx
        have hO : Obj' (upd γ id .dead) (fun b o => S b o ∨ (v0.ownBlock = some b ∧ o < l.length * es)) w x o0 := Obj'.on (h.obj x o0 ho0) (upd_ne _ _ hxi) hG (fun _ _ h => .inl h) (fun _ _ _ => rfl) (fun b hb => ⟨rfl, fun o hs => hobk b o hs x hxi hb⟩)
        cases o0 with
        | box cells =>
          obtain ⟨b, cs, t, k1, k2, k3, k4⟩ := h.obj x _ ho0
          refine ⟨b, cs, t, by rw [upd_ne _ _ hxi]; exact k1, k2, ?_, fun o hs => k4 o (hobk b o hs x hxi (by rw [k1]; rfl))⟩
          exact (k3.mono (GOn.refl _) (fun _ _ h => .inl h) (fun _ _ _ => rfl)).frz g1 hvS rfl hG
        | _ => exact hO
end
section
variable {P : Program} {N nb : Nat} {st : St} {Q : Exit → St → Prop}
def St.nila (st : St) (t : Nat) (e : TypeId) (es : Nat) : St := ⟨(t, .v (.c (.arr st.nx es 0))) :: st.tm, (st.nx, some (.arr e es [])) :: st.hp, st.nx + 1⟩
theorem aw_nila {c : Code} (t : Nat) (e : TypeId) (es : Nat) (ht : lk st.tm t = .v (.c (.pv .nilS))) (h : AW P N nb c (st.nila t e es) Q) : AW P N nb c st Q := by
  refine aw_cov (fun X hX a w hr => ?_) h
  obtain ⟨h1, h2, γ, S, hm, ha⟩ := hr
  have hG := GOn.upd_un (hm.un st.nx (Nat.le_refl _)) (.val (.slice none 0 0))
  refine ⟨h1, h2, upd γ st.nx (.val (.slice none 0 0)), S, ?_, fun s => ?_⟩
  · have m := hm.nilarr (nm := st.nx) (Nat.le_refl _) e es
    show Mem X (hlk ((st.nx, some (.arr e es [])) :: st.hp)) _ _ _ _
    rw [hlk_cons]
    exact m.less (fun x hx => ⟨by have : st.nx + 1 ≤ x := hx
                                  omega, by have : st.nx + 1 ≤ x := hx
                                            omega⟩)
  · show RepV _ S w _ (lk ((t, .v (.c (.arr st.nx es 0))) :: st.tm) s)
    by_cases hs : s = t
    · subst hs
      rw [show lk ((s, AV.v (.c (.arr st.nx es 0))) :: st.tm) s = .v (.c (.arr st.nx es 0)) by simp [lk]]
      have := ha s; rw [ht] at this
      exact nil_arr_rep (es := es) this (upd_same _ _ _)
    · rw [show lk ((t, AV.v (.c (.arr st.nx es 0))) :: st.tm) s = lk st.tm s by simp [lk, hs]]
      exact (ha s).mono hG (fun _ _ h => h) (fun _ _ _ => rfl)
def St.nilca (st : St) (id j : Nat) (cells : List AC) (e : TypeId) (es : Nat) : St := ⟨st.tm, (id, some (.box (cells.set j (.arr st.nx es 0)))) :: (st.nx, some (.arr e es [])) :: st.hp, st.nx + 1⟩
theorem aw_nilca {c : Code} (id j : Nat) (cells : List AC) (e : TypeId) (es : Nat) (hid : hlk st.hp id = some (.box cells)) (hj : cells[j]? = some (.pv .nilS)) (hlt : id < st.nx) (h : AW P N nb c (st.nilca id j cells e es) Q) : AW P N nb c st Q := by
  refine aw_cov (fun X hX a w hr => ?_) h
  obtain ⟨h1, h2, γ, S, hm, ha⟩ := hr
  have hG := GOn.upd_un (hm.un st.nx (Nat.le_refl _)) (.val (.slice none 0 0))
  refine ⟨h1, h2, upd γ st.nx (.val (.slice none 0 0)), S, ?_, fun s => (ha s).mono hG (fun _ _ h => h) (fun _ _ _ => rfl)⟩
  have m := hm.nilarr (nm := st.nx) (Nat.le_refl _) e es
  show Mem X (hlk ((id, some (.box (cells.set j (.arr st.nx es 0)))) :: (st.nx, some (.arr e es [])) :: st.hp)) _ _ _ _
  rw [hlk_cons, hlk_cons]
  have hne : id ≠ st.nx := by omega
  have hid' : upd (hlk st.hp) st.nx (some (.arr e es [])) id = some (.box cells) := by rw [upd_ne _ _ hne]; exact hid
  refine { m with un := fun x hx => m.un x ⟨by have : st.nx + 1 ≤ x := hx
                                               omega, by have : st.nx + 1 ≤ x := hx
                                                         omega⟩, off := fun x hx => ?_, obj := fun x o hx => ?_ }
  · by_cases hxi : x = id
    · subst hxi; rw [upd_same] at hx; cases hx
    · rw [upd_ne _ _ hxi] at hx; exact m.off x hx
  · by_cases hxi : x = id
    · subst hxi
      rw [upd_same] at hx; cases hx
      obtain ⟨b, cs, t, k1, k2, k3, k4⟩ := m.obj x _ hid'
      refine ⟨b, cs, t, k1, k2, ⟨by rw [List.length_set]; exact k3.1, fun i ac hi => ?_⟩, k4⟩
      rw [List.getElem?_set] at hi
      split at hi
      · rename_i hij
        split at hi
        · cases hi
          subst hij
          obtain ⟨v, g1, g2⟩ := k3.2 j _ hj
          exact ⟨v, g1, nil_arr_rep (γ := upd γ st.nx (.val (.slice none 0 0))) g2 (upd_same _ _ _)⟩
        · cases hi
      · exact k3.2 i ac hi
    · rw [upd_ne _ _ hxi] at hx; exact m.obj x o hx
def St.frz (st : St) (id es : Nat) (l : List (List PV)) : St := ⟨st.tm.map fun p => (p.1, p.2.frz id (.sl es l)), st.hp.map fun p => (p.1, if p.1 = id then none else p.2.map (AO.frz id (.sl es l))), st.nx⟩
theorem lk_map (f : AV → AV) (hf : f .top = .top) : ∀ (l : List (Nat × AV)) (t : Nat), lk (l.map fun p => (p.1, f p.2)) t = f (lk l t)
  | [], t => hf.symm
  | p :: l, t => by
    unfold lk
    rw [List.map_cons]
    dsimp only
    split
    · rfl
    · exact lk_map f hf l t
theorem hlk_map (f : Nat → Option AO → Option AO) (hf : ∀ x, f x none = none) : ∀ (l : List (Nat × Option AO)) (t : Nat), hlk (l.map fun p => (p.1, f p.1 p.2)) t = f t (hlk l t)
  | [], t => (hf t).symm
  | p :: l, t => by
    unfold hlk
    rw [List.map_cons]
    dsimp only
    split
    · rename_i h; rw [h]
    · exact hlk_map f hf l t
theorem aw_frz {c : Code} (id : Nat) (e : TypeId) (es : Nat) (l : List (List PV)) (hid : hlk st.hp id = some (.arr e es l)) (h : AW P N nb c (st.frz id es l) Q) : AW P N nb c st Q := by
  refine aw_cov (fun X hX a w hr => ?_) h
  obtain ⟨h1, h2, γ, S, hm, ha⟩ := hr
  obtain ⟨S', v0, hS, hg, hp, m⟩ := hm.freeze hid
  refine ⟨h1, h2, upd γ id .dead, S', ?_, fun s => ?_⟩
  · show Mem X (hlk (st.hp.map fun p => (p.1, if p.1 = id then none else p.2.map (AO.frz id (.sl es l))))) _ _ _ _
    have e1 : hlk (st.hp.map fun p => (p.1, if p.1 = id then none else p.2.map (AO.frz id (.sl es l)))) = fun x => if x = id then none else (hlk st.hp x).map (AO.frz id (.sl es l)) := by
      funext x
      exact hlk_map (fun x o => if x = id then none else o.map (AO.frz id (.sl es l))) (fun x => by split <;> rfl) st.hp x
    rw [e1]; exact m
  · show RepV _ S' w _ (lk (st.tm.map fun p => (p.1, p.2.frz id (.sl es l))) s)
    rw [lk_map (AV.frz id (.sl es l)) rfl]
    exact ((ha s).mono (GOn.refl _) hS (fun _ _ _ => rfl)).frz hg hp rfl (GOn.kill hg)
end
end Go.Proofs.Ythkfdheoakbfnaa.am
end
section
namespace Go.Proofs.Ythkfdheoakbfnaa.am
open Go.ChangeShapes Go.WideShapes Go.ChangeAt Go.RowKit
set_option linter.unusedVariables false
end Go.Proofs.Ythkfdheoakbfnaa.am
end
section
namespace Go.Proofs.Ythkfdheoakbfnaa.am
open Go.ChangeShapes Go.WideShapes Go.ChangeAt Go.RowKit
set_option linter.unusedVariables false
set_option linter.unusedSimpArgs false
variable {P : Program} {N nb : Nat} {st : St} {Q : Exit → St → Prop}
end Go.Proofs.Ythkfdheoakbfnaa.am
end
section
namespace Go.Proofs.Ythkfdheoakbfnaa.am
open Go.ChangeShapes Go.WideShapes Go.ChangeAt Go.RowKit
set_option linter.unusedVariables false
set_option linter.unusedSimpArgs false
variable {P : Program} {N nb : Nat} {st : St} {Q : Exit → St → Prop}
def St.mvw (st : St) (id bx j : Nat) (cells : List AC) (e : TypeId) (es n : Nat) (l : List (List PV)) : St := ⟨st.tm, (bx, some (.box (cells.set j (.vw st.nx es 0 n)))) :: (st.nx, some (.arr e es l)) :: (id, none) :: st.hp, st.nx + 1⟩
theorem rel_mvw (id bx j : Nat) (cells : List AC) (e : TypeId) (es n : Nat) (l : List (List PV)) (hid : hlk st.hp id = some (.arr e es l)) (hbx : hlk st.hp bx = some (.box cells)) (hj : cells[j]? = some (.arr id es n) ∨ cells[j]? = some (.vw id es 0 n)) (hl1 : id < st.nx) (hl2 : bx < st.nx) : Cov N nb st (st.mvw id bx j cells e es n l) := fun X hX a w hr => by
  obtain ⟨h1, h2, γ, S, hm, ha⟩ := hr
  obtain ⟨v, xs, g1, g2, g3, g4, g5⟩ := hm.obj _ _ hid
  obtain ⟨m, hG⟩ := hm.app (nm := st.nx) (Nat.le_refl _) g1 rfl (w' := w) rfl rfl rfl rfl (fun _ _ => rfl) (fun _ _ _ => rfl) (fun _ => False) (.arr e es l)
    ⟨v, xs, upd_same _ _ _, g2, fun i e j p k1 k2 => by
      obtain ⟨u, k3, k4⟩ := g3 i e j p k1 k2
      exact ⟨u, k3, k4.mono (fun _ _ h => .inl h) (fun _ _ _ => rfl)⟩, g4, fun b hb o hs => g5 b hb o (hs.elim (fun h => h) (fun h => h.2.elim))⟩
  refine ⟨h1, h2, upd (upd γ id .dead) st.nx (.val v), (fun b k => S b k ∨ (v.ownBlock = some b ∧ False)), ?_, fun s => (ha s).mono hG (fun _ _ h => Or.inl h) (fun _ _ _ => rfl)⟩
  show Mem X (hlk ((bx, some (.box (cells.set j (.vw st.nx es 0 n)))) :: (st.nx, some (.arr e es l)) :: (id, none) :: st.hp)) _ _ _ _
  rw [hlk_cons, hlk_cons, hlk_cons]
  have hne : bx ≠ st.nx := by omega
  have hbi : bx ≠ id := fun e => by rw [e, hid] at hbx; cases hbx
  have hbx' : upd (upd (hlk st.hp) id none) st.nx (some (.arr e es l)) bx = some (.box cells) := by rw [upd_ne _ _ hne, upd_ne _ _ hbi]; exact hbx
  obtain ⟨b0, cs0, t0, q1, q2, q3, q4⟩ := hm.obj _ _ hbx
  refine { m with un := fun x hx => m.un x ⟨by have : st.nx + 1 ≤ x := hx
                                               show st.nx ≤ x
                                               omega, by have : st.nx + 1 ≤ x := hx
                                                         omega⟩, off := fun x hx => ?_, obj := fun x o hx => ?_ }
  · by_cases hxi : x = bx
    · subst hxi; rw [upd_same] at hx; cases hx
    · rw [upd_ne _ _ hxi] at hx; exact m.off x hx
  · by_cases hxi : x = bx
    · subst hxi
      rw [upd_same] at hx; cases hx
      obtain ⟨b, cs, t, k1, k2, k3, k4⟩ := m.obj x _ hbx'
      have hcs : cs = cs0 := by
        have : (upd (upd γ id .dead) st.nx (.val v)) x = γ x := by rw [upd_ne _ _ hne, upd_ne _ _ hbi]
        rw [this, q1] at k1
        cases k1
        rw [q2] at k2
        cases k2
        rfl
      refine ⟨b, cs, t, k1, k2, ⟨by rw [List.length_set]; exact k3.1, fun i ac hi => ?_⟩, k4⟩
      rw [List.getElem?_set] at hi
      split at hi
      · rename_i hij
        split at hi
        · cases hi
          subst hij
          rcases hj with hj | hj
          · obtain ⟨u, r1, r2⟩ := q3.2 j _ hj
            obtain ⟨⟨a', c', r3⟩, r4⟩ := r2
            have hu : u = v := by
              rcases r4 with r4 | r4
              · rw [g1] at r4; cases r4
              · rw [g1] at r4; cases r4; rfl
            subst hu
            subst r3
            obtain ⟨o1, o2⟩ := obj_len g2 rfl
            refine ⟨_, by rw [hcs]; exact r1, a', n, c', .inr (upd_same _ _ _), a', by omega, by omega, fun _ => ?_, rfl⟩
            rcases g2.2 with ⟨p1, _⟩ | ⟨g, cap, cur, p1, _⟩
            · injection p1 with p1; subst p1; rfl
            · injection p1 with p1; subst p1; simp [addr_add]
          · obtain ⟨u, r1, a', m', c', r4, a'', r5⟩ := q3.2 j _ hj
            have hu : .slice a' m' c' = v := by
              rcases r4 with r4 | r4
              · rw [g1] at r4; cases r4
              · rw [g1] at r4; cases r4; rfl
            exact ⟨u, by rw [hcs]; exact r1, a', m', c', .inr (by rw [hu]; exact upd_same _ _ _), a'', r5⟩
        · cases hi
      · exact k3.2 i ac hi
    · rw [upd_ne _ _ hxi] at hx; exact m.obj x o hx
theorem aw_mvw {c : Code} (id bx j : Nat) (cells : List AC) (e : TypeId) (es n : Nat) (l : List (List PV)) (hid : hlk st.hp id = some (.arr e es l)) (hbx : hlk st.hp bx = some (.box cells)) (hj : cells[j]? = some (.arr id es n) ∨ cells[j]? = some (.vw id es 0 n)) (hl1 : id < st.nx) (hl2 : bx < st.nx) (h : AW P N nb c (st.mvw id bx j cells e es n l) Q) : AW P N nb c st Q :=
  aw_cov (rel_mvw id bx j cells e es n l hid hbx hj hl1 hl2) h
theorem cov_mvw (bx j : Nat) {id : Nat} {cells : List AC} {e : TypeId} {es n : Nat} {l : List (List PV)} {st' : St} (hbx : hlk st.hp bx = some (.box cells)) (hj : cells[j]? = some (.arr id es n)) (hid : hlk st.hp id = some (.arr e es l)) (hl1 : id < st.nx) (hl2 : bx < st.nx) (h : Cov N nb (st.mvw id bx j cells e es n l) st') : Cov N nb st st' := fun X hX a w hr =>
  h X hX a w (rel_mvw id bx j cells e es n l hid hbx (.inl hj) hl1 hl2 X hX a w hr)
end Go.Proofs.Ythkfdheoakbfnaa.am
end
section
namespace Go.Proofs.Ythkfdheoakbfnaa.am
open Go.ChangeShapes Go.WideShapes Go.ChangeAt Go.RowKit
open vt
set_option linter.unusedVariables false
set_option linter.unusedSimpArgs false
theorem td_errno13 : td Try.prog 26 = some ⟨false, 1, 8, [.lit (.int .i64 0)], [], (.int .i64)⟩ := Eq.trans (by kernel_rfl) (Eq.refl _)
theorem td_strs13 : td Try.prog 69 = some ⟨false, 1, 24, [.nilS], [], (.slice 9)⟩ := Eq.trans (by kernel_rfl) (Eq.refl _)
attribute [simp] td_errno13 td_strs13
theorem dcl_none {l : List VT} {s : ByteArray} : dcl l s = none ↔ hasS (l.map (·.lab.s)) s = false := by
  unfold dcl hasS
  simp [List.findIdx?_eq_none_iff]
theorem dcl_some {l : List VT} {s : ByteArray} {i : Nat} (h : dcl l s = some i) : i < l.length := by
  unfold dcl at h
  exact (List.findIdx?_eq_some_iff_findIdx_eq.1 h).1
abbrev wsS (W : List ByteArray) : List (List PV) := W.map fun s => [Sx s]
theorem wrp_er (x : Lab) (a : List VT) (g : LR) : (wrpS x a g).er = g.2.2 := by
  unfold wrpS
  by_cases h : g.2.2 = 0 <;> simp [h]
theorem wrp_pl (x : Lab) (a : List VT) (g : LR) (h : g.2.2 = 0 → g.2.1 = 0) : (wrpS x a g).pl = g.2.1 := by
  unfold wrpS
  by_cases c : g.2.2 = 0
  · simp [c, h c]
  · simp [c]
theorem wrp_t (x : Lab) (a : List VT) (g : LR) (h : g.2.2 = 0) : (wrpS x a g).t = .mk x (a ++ g.1) := by
  unfold wrpS
  simp [h]
def kndD (d : VT) : Prop := d.lab.k = 30 ∨ d.lab.k = 31 ∨ d.lab.k = 32 ∨ d.lab.k = 33
theorem twc_snoc' (ml : List VT) (k : Nat) (y : VT) (hy : ml[k]? = some y) (h : twcS [] (ml.take k) = none) : twcS [] (ml.take (k + 1)) = if hasS ((ml.take k).map (·.lab.s)) y.lab.s = true then some y.lab.f else none := by
  rw [show ml.take (k + 1) = ml.take k ++ [y] by rw [List.take_add_one, hy]; rfl, twcS_snoc, h]
  rfl
theorem twc_some {f : Int} : ∀ (l r : List VT) (seen : List ByteArray), twcS seen l = some f → twcS seen (l ++ r) = some f
  | [], r, seen, h => by simp [twcS] at h
  | y :: l, r, seen, h => by
    rw [List.cons_append]
    unfold twcS at h ⊢
    split
    · rename_i c; rw [if_pos c] at h; exact h
    · rename_i c; rw [if_neg c] at h; exact twc_some l r _ h
end Go.Proofs.Ythkfdheoakbfnaa.am
end
section
namespace Go.Proofs.Ythkfdheoakbfnaa.am
open vt
noncomputable abbrev vT3i (r : VT × Int × Int) : AV := .tup [.agg (ta r.1), .c (.pv (I r.2.1)), .c (.pv (I r.2.2))]
abbrev zTb : AO := .box [.pv (I 0), .pv (I 0), .pv (Sx ⟨#[]⟩), .pv .nilS, .pv (I 0), .pv (I 0)]
end Go.Proofs.Ythkfdheoakbfnaa.am
end
section
namespace Go.Proofs.Ythkfdheoakbfnaa.am
open vt
theorem td_term : td Try.prog 25 = some ⟨true, 6, 72, [.lit (.int .i64 0), .lit (.int .i64 0), .lit (.string ⟨#[]⟩), .nilS, .lit (.int .i64 0), .lit (.int .i64 0)], [(0, 1, false), (1, 1, false), (2, 1, false), (3, 1, false), (4, 1, false), (5, 1, false)], .struct⟩ := Eq.trans (by kernel_rfl) (Eq.refl _)
theorem td_terms : td Try.prog 23 = some ⟨false, 1, 24, [.nilS], [], (.slice 25)⟩ := Eq.trans (by kernel_rfl) (Eq.refl _)
theorem td_int : td Try.prog 3 = some ⟨false, 1, 8, [.lit (.int .i64 0)], [], (.int .i64)⟩ := Eq.trans (by kernel_rfl) (Eq.refl _)
theorem td_int64 : td Try.prog 2 = some ⟨false, 1, 8, [.lit (.int .i64 0)], [], (.int .i64)⟩ := Eq.trans (by kernel_rfl) (Eq.refl _)
theorem td_bool : td Try.prog 4 = some ⟨false, 1, 1, [.lit (.bool false)], [], .bool⟩ := Eq.trans (by kernel_rfl) (Eq.refl _)
theorem td_string : td Try.prog 9 = some ⟨false, 1, 16, [.lit (.string ⟨#[]⟩)], [], .string⟩ := Eq.trans (by kernel_rfl) (Eq.refl _)
attribute [simp] td_term td_terms td_int td_int64 td_bool td_string
theorem mixd : Try.prog.follows .mixedOrders = true := by kernel_rfl
end Go.Proofs.Ythkfdheoakbfnaa.am
end
section
namespace Go.Proofs.Ythkfdheoakbfnaa.am
open Go.ChangeShapes Go.WideShapes Go.ChangeAt Go.RowKit
open vt
set_option linter.unusedVariables false
set_option linter.unusedSimpArgs false
theorem td_ints : td Try.prog 47 = some ⟨false, 1, 24, [.nilS], [], (.slice 3)⟩ := Eq.trans (by kernel_rfl) (Eq.refl _)
attribute [simp] td_ints
abbrev Is (l : List Int) : PV := .sl 1 (l.map fun z => [I z])
abbrev vIs (l : List Int) : AV := .v (.c (.pv (Is l)))
end Go.Proofs.Ythkfdheoakbfnaa.am
end
