import Derived.Test.YtcjagcfjpfjanaaPkC3
import Derived.Test.YtcjagcfjpfjanaaPkC0
import Derived.Test.YtcjagcfjpfjanaaProg
import Derived.WalkKit
import Derived.ProofKit
import Derived.Lib.Hide
import Derived.ChangeOld
import Derived.OpenShut
import Derived.Below
import Derived.Test.YtcjagcfjpfjanaaPkC2
set_option maxRecDepth 100000
set_option maxHeartbeats 4000000
section
namespace Go.Proofs.Ytcjagcfjpfjanaa.vt
open Go.Proofs.Ytcjagcfjpfjanaa.am
set_option linter.unusedVariables false
inductive Tr (α : Type) where
  | mk (x : α) (l : List (Tr α))
namespace Tr
variable {α : Type}
def lab : Tr α → α
  | .mk x _ => x
def kids : Tr α → List (Tr α)
  | .mk _ l => l
theorem ind {P : Tr α → Prop} (h : ∀ x l, (∀ y ∈ l, P y) → P (.mk x l)) (t : Tr α) : P t :=
  Tr.rec (motive_1 := P) (motive_2 := fun l => ∀ y ∈ l, P y) h (fun y hy => by simp at hy) (fun x l hx hl y hy => by
    rcases List.mem_cons.1 hy with rfl | hy
    · exact hx
    · exact hl y hy) t
noncomputable def fold {β : Type} (g : α → List (Tr α) → List β → β) (t : Tr α) : β :=
  Tr.rec (motive_1 := fun _ => β) (motive_2 := fun _ => List β) (fun x l ih => g x l ih) [] (fun _ _ a b => a :: b) t
theorem fold_mk {β : Type} (g : α → List (Tr α) → List β → β) (x : α) (l : List (Tr α)) : fold g (.mk x l) = g x l (l.map (fold g)) := by
  show g x l _ = _
  congr 1
  induction l with
  | nil => rfl
  | cons y l ih => show fold g y :: _ = _; rw [ih]; rfl
noncomputable def size (t : Tr α) : Nat := fold (fun _ _ b => 1 + b.sum) t
theorem size_mk (x : α) (l : List (Tr α)) : size (.mk x l) = 1 + (l.map size).sum := fold_mk _ x l
theorem size_pos (t : Tr α) : 0 < size t := by cases t; rw [size_mk]; omega
theorem size_at {x : α} {l : List (Tr α)} {i : Nat} {y : Tr α} (h : l[i]? = some y) : size y < size (.mk x l) := by
  rw [size_mk]
  have : size y ≤ (l.map size).sum := by
    induction l generalizing i with
    | nil => simp at h
    | cons z l ih =>
      cases i with
      | zero => simp at h; subst h; simp
      | succ i => have := ih (by simpa using h); simp; omega
  omega
theorem len_size {x : α} {l : List (Tr α)} : l.length < size (.mk x l) := by
  rw [size_mk]
  have : l.length ≤ (l.map size).sum := by
    induction l with
    | nil => simp
    | cons z l ih => have := size_pos z; simp; omega
  omega
noncomputable def all (p : α → Prop) (t : Tr α) : Prop := fold (fun x _ b => p x ∧ ∀ q ∈ b, q) t
theorem all_mk (p : α → Prop) (x : α) (l : List (Tr α)) : all p (.mk x l) ↔ p x ∧ ∀ y ∈ l, all p y := by
  unfold all
  rw [fold_mk]
  constructor
  · rintro ⟨h1, h2⟩; exact ⟨h1, fun y hy => h2 _ (List.mem_map_of_mem hy)⟩
  · rintro ⟨h1, h2⟩; refine ⟨h1, fun q hq => ?_⟩
    obtain ⟨y, hy, rfl⟩ := List.mem_map.1 hq
    exact h2 y hy
end Tr
structure Lab where
  k : Int
  n : Int
  s : ByteArray
  f : Int
  t : Int
def Lab.ok (x : Lab) : Prop := (-9223372036854775808 ≤ x.k ∧ x.k ≤ 9223372036854775807) ∧ (-9223372036854775808 ≤ x.n ∧ x.n ≤ 9223372036854775807) ∧ (-9223372036854775808 ≤ x.f ∧ x.f ≤ 9223372036854775807) ∧ (-9223372036854775808 ≤ x.t ∧ x.t ≤ 9223372036854775807)
abbrev VT := Tr Lab
noncomputable abbrev in64 (t : VT) : Prop := Tr.all Lab.ok t
abbrev I (z : Int) : PV := .lit (.int .i64 z)
abbrev Sx (s : ByteArray) : PV := .lit (.string s)
abbrev Bo (b : Bool) : PV := .lit (.bool b)
abbrev vI (z : Int) : AV := .v (.c (.pv (I z)))
abbrev vB (b : Bool) : AV := .v (.c (.pv (Bo b)))
noncomputable def tc (t : VT) : List PV := Tr.fold (fun x _ b => [I x.k, I x.n, Sx x.s, .sl 6 b, I x.f, I x.t]) t
theorem tc_mk (x : Lab) (l : List VT) : tc (.mk x l) = [I x.k, I x.n, Sx x.s, .sl 6 (l.map tc), I x.f, I x.t] := Tr.fold_mk _ x l
theorem tc_len (t : VT) : (tc t).length = 6 := by cases t; rw [tc_mk]; rfl
noncomputable def ta (t : VT) : List AC := (tc t).map .pv
theorem ta_mk (x : Lab) (l : List VT) : ta (.mk x l) = [.pv (I x.k), .pv (I x.n), .pv (Sx x.s), .pv (.sl 6 (l.map tc)), .pv (I x.f), .pv (I x.t)] := by unfold ta; rw [tc_mk]; rfl
noncomputable abbrev vT (t : VT) : AV := .v (.agg (ta t))
noncomputable abbrev vLs (l : List VT) : AV := .v (.c (.pv (.sl 6 (l.map tc))))
theorem ta_len (t : VT) : (ta t).length = 6 := by unfold ta; rw [List.length_map]; exact tc_len t
theorem mapM_pure (l : List PV) : (l.map AC.pv).mapM pureC = some l := by
  induction l with
  | nil => rfl
  | cons p l ih => rw [List.map_cons, List.mapM_cons, ih]; rfl
theorem ta_pure (t : VT) : (ta t).mapM pureC = some (tc t) := mapM_pure _
theorem fit_pure {n : Nat} {ρ : Nat → Nat} (l : List PV) : fitCs n ρ (l.map AC.pv) (l.map AC.pv) := by
  induction l with
  | nil => trivial
  | cons p l ih => exact ⟨fitP_refl p, ih⟩
theorem fit_ta {n : Nat} {ρ : Nat → Nat} (t : VT) : fitCs n ρ (ta t) (ta t) := fit_pure _
theorem ta_take (t : VT) : (ta t).take 6 = ta t := List.take_of_length_le (by rw [ta_len]; exact Nat.le_refl _)
attribute [simp] ta_mk tc_mk ta_len tc_len ta_pure fit_ta fit_pure ta_take
theorem ren_pure (ρ : Nat → Nat) (l : List PV) : (l.map AC.pv).map (AC.ren ρ) = l.map AC.pv := by
  rw [List.map_map]; rfl
theorem vT_ren (t : VT) (ρ : Nat → Nat) : (vT t).ren ρ = vT t := by
  show AV.v (.agg (((tc t).map AC.pv).map (AC.ren ρ))) = _
  rw [ren_pure]; rfl
end Go.Proofs.Ytcjagcfjpfjanaa.vt
end
section
namespace Go.Proofs.Ytcjagcfjpfjanaa.vt
open Go.Proofs.Ytcjagcfjpfjanaa.am
set_option linter.unusedVariables false
noncomputable def eqv (p : Lab → Lab → Bool) (t : VT) : VT → Bool := Tr.fold (fun x l bs u => p x u.lab && decide (l.length = u.kids.length) && (bs.zip u.kids).all (fun q => q.1 q.2)) t
def zipA (f : VT → VT → Bool) (l m : List VT) (k : Nat) : Bool := ((l.zip m).take k).all (fun q => f q.1 q.2)
theorem zipA_zero (f : VT → VT → Bool) (l m : List VT) : zipA f l m 0 = true := by simp [zipA]
theorem zipA_succ {f : VT → VT → Bool} {l m : List VT} {k : Nat} {a b : VT} (ha : l[k]? = some a) (hb : m[k]? = some b) : zipA f l m (k + 1) = (zipA f l m k && f a b) := by
  unfold zipA
  rw [List.take_add_one, show (l.zip m)[k]? = some (a, b) from List.getElem?_zip_eq_some.2 ⟨ha, hb⟩]
  simp [List.all_append]
theorem zipA_mono {f : VT → VT → Bool} {l m : List VT} {k : Nat} (j : Nat) (h : zipA f l m k = false) : zipA f l m (k + j) = false := by
  unfold zipA at h ⊢
  rw [List.all_eq_false] at h ⊢
  obtain ⟨q, h1, h2⟩ := h
  refine ⟨q, ?_, h2⟩
  have : (l.zip m).take k <+: (l.zip m).take (k + j) := List.take_prefix_take_left (by omega)
  exact this.subset h1
theorem zip_map_all {α β : Type} (F : α → β → Bool) : ∀ (l : List α) (m : List β), ((l.map F).zip m).all (fun q => q.1 q.2) = (l.zip m).all (fun q => F q.1 q.2)
  | [], m => rfl
  | a :: l, [] => rfl
  | a :: l, b :: m => by simp only [List.map_cons, List.zip_cons_cons, List.all_cons, zip_map_all F l m]
theorem eqv_mk (p : Lab → Lab → Bool) (x y : Lab) (l m : List VT) : eqv p (.mk x l) (.mk y m) = (p x y && decide (l.length = m.length) && zipA (eqv p) l m l.length) := by
  have e : zipA (eqv p) l m l.length = (l.zip m).all (fun q => eqv p q.1 q.2) := by
    unfold zipA
    rw [List.take_of_length_le (l := l.zip m) (by rw [List.length_zip]; exact Nat.min_le_left _ _)]
  rw [e]
  conv => lhs; unfold eqv
  rw [Tr.fold_mk, zip_map_all]
  rfl
def pS (x y : Lab) : Bool := decide (x.k = y.k) && decide (x.n = y.n) && decide (x.s = y.s)
def pP (x y : Lab) : Bool := decide (x.k = y.k) && decide (x.n = y.n) && decide (x.s = y.s) && decide (x.f = y.f) && decide (x.t = y.t)
noncomputable abbrev same (t u : VT) : Bool := eqv pS t u
noncomputable abbrev plac (t u : VT) : Bool := eqv pP t u
theorem zipA_refl {f : VT → VT → Bool} {l : List VT} (h : ∀ y ∈ l, f y y = true) : ∀ k, zipA f l l k = true := fun k => by
  unfold zipA
  rw [List.all_eq_true]
  intro q hq
  have hq := List.mem_of_mem_take hq
  obtain ⟨i, hi⟩ := List.mem_iff_getElem?.1 hq
  obtain ⟨h1, h2⟩ := List.getElem?_zip_eq_some.1 hi
  rw [h1] at h2
  have : q.1 = q.2 := by simpa using h2
  rw [← this]
  exact h _ (List.mem_of_getElem? h1)
theorem eqv_refl {p : Lab → Lab → Bool} (hp : ∀ x, p x x = true) (t : VT) : eqv p t t = true := by
  induction t using Tr.ind with
  | h x l ih => rw [eqv_mk, hp, zipA_refl ih]; simp
theorem plac_refl (t : VT) : plac t t = true := eqv_refl (fun x => by simp [pP]) t
noncomputable def cntT (t : VT) : Int → Int → Int := Tr.fold (fun x l bs left lv => if lv ≤ 0 then -1 else bs.foldl (fun n f => if 0 ≤ n then f n (lv - 1) else n) (left - 1)) t
noncomputable def cntK (l : List VT) (lv n : Int) (k : Nat) : Int := (l.take k).foldl (fun n y => if 0 ≤ n then cntT y n (lv - 1) else n) n
theorem cnt_mk (x : Lab) (l : List VT) (left lv : Int) : cntT (.mk x l) left lv = if lv ≤ 0 then -1 else cntK l lv (left - 1) l.length := by
  unfold cntT
  rw [Tr.fold_mk]
  split
  · rfl
  · rw [List.foldl_map]; unfold cntK; rw [List.take_length]; rfl
theorem cntK_zero (l : List VT) (lv n : Int) : cntK l lv n 0 = n := by simp [cntK]
theorem cntK_succ {l : List VT} {lv n : Int} {k : Nat} {y : VT} (h : l[k]? = some y) : cntK l lv n (k + 1) = if 0 ≤ cntK l lv n k then cntT y (cntK l lv n k) (lv - 1) else cntK l lv n k := by
  unfold cntK
  rw [List.take_add_one, h, Option.toList_some, List.foldl_append]
  rfl
theorem cntK_neg {l : List VT} {lv n : Int} {k : Nat} (h : cntK l lv n k < 0) : ∀ j, k ≤ j → j ≤ l.length → cntK l lv n j = cntK l lv n k := fun j hj => by
  induction j with
  | zero => intro _; rw [show k = 0 by omega]
  | succ j ih =>
    intro hl
    by_cases hjk : k = j + 1
    · rw [hjk]
    · have hy : l[j]? = some (l[j]'(by omega)) := List.getElem?_eq_getElem _
      rw [cntK_succ hy, ih (by omega) (by omega), if_neg (by omega)]
theorem cnt_le (t : VT) : ∀ left lv : Int, -1 ≤ left → cntT t left lv ≤ left ∧ -2 ≤ cntT t left lv ∧ (0 ≤ cntT t left lv → cntT t left lv + (t.size : Int) = left) := by
  induction t using Tr.ind with
  | h x l ih =>
    intro left lv h0
    rw [cnt_mk]
    split
    · exact ⟨by omega, by omega, fun h => by omega⟩
    · have key : ∀ k, k ≤ l.length → cntK l lv (left - 1) k ≤ left - 1 ∧ -2 ≤ cntK l lv (left - 1) k ∧ (0 ≤ cntK l lv (left - 1) k → cntK l lv (left - 1) k + (((l.take k).map Tr.size).sum : Nat) = left - 1) := fun k => by
        induction k with
        | zero => intro _; rw [cntK_zero]; simp; omega
        | succ k ihk =>
          intro hk
          obtain ⟨a1, a2, a3⟩ := ihk (by omega)
          have hy : l[k]? = some (l[k]'(by omega)) := List.getElem?_eq_getElem _
          rw [cntK_succ hy]
          split
          · rename_i hge
            obtain ⟨b1, b2, b3⟩ := ih _ (List.mem_of_getElem? hy) (cntK l lv (left - 1) k) (lv - 1) (by omega)
            refine ⟨by omega, b2, fun h => ?_⟩
            have c1 := b3 h; have c2 := a3 hge
            rw [List.take_add_one, hy]
            simp only [Option.toList_some, List.map_append, List.map_cons, List.map_nil, List.sum_append, List.sum_cons, List.sum_nil]
            omega
          · exact ⟨a1, a2, fun h => by omega⟩
      obtain ⟨b1, b2, b3⟩ := key l.length (Nat.le_refl _)
      refine ⟨by omega, b2, fun h => ?_⟩
      have := b3 h
      rw [List.take_length] at this
      rw [Tr.size_mk]
      omega
noncomputable def nmd (t : VT) : Bool := Tr.fold (fun x l bs => decide (40 < x.s.size) || bs.any id) t
def anyK (f : VT → Bool) (l : List VT) (k : Nat) : Bool := (l.take k).any f
theorem anyK_zero (f : VT → Bool) (l : List VT) : anyK f l 0 = false := by simp [anyK]
theorem anyK_succ {f : VT → Bool} {l : List VT} {k : Nat} {y : VT} (h : l[k]? = some y) : anyK f l (k + 1) = (anyK f l k || f y) := by
  unfold anyK
  rw [List.take_add_one, h]; simp
theorem anyK_all (f : VT → Bool) (l : List VT) : anyK f l l.length = l.any f := by unfold anyK; rw [List.take_length]
theorem any_of {f : VT → Bool} {l : List VT} {k : Nat} {y : VT} (h : l[k]? = some y) (hf : f y = true) : l.any f = true := List.any_eq_true.2 ⟨y, List.mem_of_getElem? h, hf⟩
theorem nmd_mk (x : Lab) (l : List VT) : nmd (.mk x l) = (decide (40 < x.s.size) || l.any nmd) := by
  unfold nmd
  rw [Tr.fold_mk, List.any_map]
  rfl
noncomputable def large (t : VT) : Bool := decide (cntT t 400 70 < 0) || nmd t
theorem large_size {t : VT} (h : large t = false) : t.size ≤ 400 := by
  unfold large at h
  rw [Bool.or_eq_false_iff] at h
  have h1 : ¬ cntT t 400 70 < 0 := by simpa using h.1
  have := (cnt_le t 400 70 (by omega)).2.2 (by omega)
  omega
end Go.Proofs.Ytcjagcfjpfjanaa.vt
end
section
namespace Go.Proofs.Ytcjagcfjpfjanaa.vs
open Go.ChangeShapes Go.WideShapes Go.ChangeAt Go.RowKit
def encF : Nat → Int → List Int
  | 0, v => [v]
  | k + 1, v => if v < 128 then [v] else (v % 128 + 128) :: encF k (v / 128)
theorem encF_succ (k : Nat) (v : Int) : encF (k + 1) v = if v < 128 then [v] else (v % 128 + 128) :: encF k (v / 128) := rfl
def enc (v : Int) : List Int := encF 9 v
def grp (i : Nat) (v : Int) : List Int → Int × Nat × Int
  | [] => (0, 0, 1)
  | c :: r =>
    if (i = 9 ∧ c ≠ 1) ∨ (0 < i ∧ c = 0) then (0, 0, 2)
    else if c < 128 then (v + c % 128 * 128 ^ i, i + 1, 0)
    else grp (i + 1) (v + c % 128 * 128 ^ i) r
theorem encF_bytes : ∀ (k : Nat) (v : Int), 0 ≤ v → v < 2 * 128 ^ k → bs.AllB (encF k v)
  | 0, v, h0, h1 => by intro n hn; simp [encF] at hn; subst hn; simp at h1; omega
  | k + 1, v, h0, h1 => by
    intro n hn
    unfold encF at hn
    split at hn
    · simp at hn; subst hn; omega
    · rcases List.mem_cons.1 hn with rfl | hn
      · omega
      · refine encF_bytes k (v / 128) (by omega) ?_ n hn
        rw [Int.pow_succ] at h1
        omega
theorem encF_len : ∀ (k : Nat) (v : Int), 1 ≤ (encF k v).length ∧ (encF k v).length ≤ k + 1
  | 0, v => by simp [encF]
  | k + 1, v => by
    unfold encF
    have := encF_len k (v / 128)
    split
    · simp
    · simp; omega
theorem enc_bytes (v : Int) (h0 : 0 ≤ v) (h1 : v ≤ 18446744073709551615) : bs.AllB (enc v) := encF_bytes 9 v h0 (by omega)
theorem pow_pos' (i : Nat) : (0 : Int) < 128 ^ i := Int.pow_pos (by omega)
theorem grp_encF : ∀ (k i : Nat) (v V : Int) (r : List Int), i + k = 9 → 0 ≤ V → V < 2 * 128 ^ k → (0 < i → V ≠ 0) → grp i v (encF k V ++ r) = (v + V * 128 ^ i, i + (encF k V).length, 0)
  | 0, i, v, V, r, hi, h0, h1, h2 => by
    simp at h1
    have : V = 1 := by have := h2 (by omega); omega
    subst this
    have hi9 : i = 9 := by omega
    subst hi9
    simp [encF, grp]
  | k + 1, i, v, V, r, hi, h0, h1, h2 => by
    unfold encF
    split
    · rename_i hV
      simp only [List.cons_append, List.nil_append, grp]
      rw [if_neg (by rintro (⟨h, _⟩ | ⟨h, h'⟩); · omega
                     · exact h2 h h'), if_pos hV, Int.emod_eq_of_lt h0 hV]
      simp
    · rename_i hV
      simp only [List.cons_append, grp]
      rw [if_neg (by omega), if_neg (by omega)]
      have ih := grp_encF k (i + 1) (v + (V % 128 + 128) % 128 * 128 ^ i) (V / 128) r (by omega) (by omega) (by rw [Int.pow_succ] at h1; omega) (by omega)
      rw [ih]
      refine Prod.mk.injEq _ _ _ _ ▸ ⟨?_, ?_⟩
      · rw [show (V % 128 + 128) % 128 = V % 128 by omega, Int.pow_succ]
        have e : V = V % 128 + V / 128 * 128 := by omega
        have e2 : V * 128 ^ i = V % 128 * 128 ^ i + V / 128 * (128 ^ i * 128) := by
          conv => lhs; rw [e]
          rw [Int.add_mul, Int.mul_assoc, Int.mul_comm 128 (128 ^ i)]
        rw [e2]; omega
      · simp; omega
theorem grp_enc (V : Int) (r : List Int) (h0 : 0 ≤ V) (h1 : V ≤ 18446744073709551615) : grp 0 0 (enc V ++ r) = (V, (enc V).length, 0) := by
  have := grp_encF 9 0 0 V r (by omega) h0 (by omega) (by omega)
  simpa [enc] using this
end Go.Proofs.Ytcjagcfjpfjanaa.vs
end
section
namespace Go.Proofs.Ytcjagcfjpfjanaa.vs
open Go.ChangeShapes Go.WideShapes Go.ChangeAt Go.RowKit
open bs
set_option linter.unusedVariables false
def getAt (l : List Int) (at' : Int) : Int × Int × Int :=
  if at' < 0 ∨ (l.length : Int) < at' then (0, 0, 13)
  else ((grp 0 0 (l.drop at'.toNat)).1, (if (grp 0 0 (l.drop at'.toNat)).2.2 = 0 then at' + (grp 0 0 (l.drop at'.toNat)).2.1 else 0), (grp 0 0 (l.drop at'.toNat)).2.2)
theorem ret_three {N T E N' T' E' : Int} (h : (N, T, E) = (N', T', E')) : Ending.returned (.tuple #[.int .u64 N, .int .i64 T, .int .i64 E]) = .returned (.tuple #[.int .u64 N', .int .i64 T', .int .i64 E']) := by
  simp only [Prod.mk.injEq] at h
  obtain ⟨rfl, rfl, rfl⟩ := h
  rfl
theorem getAt_of (l : List Int) (q : Nat) (hq : q ≤ l.length) {N : Int} {t : Nat} {E : Int} (h : grp 0 0 (l.drop q) = (N, t, E)) : getAt l q = (N, (if E = 0 then (q : Int) + t else 0), E) := by
  unfold getAt
  rw [if_neg (by omega), show ((q : Int).toNat) = q from rfl, h]
theorem drop_cons (l : List Int) (k : Nat) (h : k < l.length) : l.drop k = l.getD k 0 :: l.drop (k + 1) := by
  rw [List.drop_eq_getElem_cons h, List.getD_eq_getElem?_getD, List.getElem?_eq_getElem h]; rfl
def GRel (l : List Int) (q : Nat) (v i : Value) : Prop := ∃ (k : Nat) (V : Int), k ≤ 9 ∧ v = .int .u64 V ∧ i = .int .i64 k ∧ 0 ≤ V ∧ V < 128 ^ k ∧ grp k V (l.drop (q + k)) = grp 0 0 (l.drop q)
theorem pow_le (k : Nat) (hk : k ≤ 9) : (128 : Int) ^ k ≤ 9223372036854775808 := by
  have : k = 0 ∨ k = 1 ∨ k = 2 ∨ k = 3 ∨ k = 4 ∨ k = 5 ∨ k = 6 ∨ k = 7 ∨ k = 8 ∨ k = 9 := by omega
  rcases this with rfl | rfl | rfl | rfl | rfl | rfl | rfl | rfl | rfl | rfl <;> decide
theorem u64_wrap (x : Int) : IntKind.u64.wrap x = x % 18446744073709551616 := by
  simp only [IntKind.wrap, IntKind.signed, IntKind.bits, Bool.false_and]
  exact if_neg (by simp)
theorem group_le (k : Nat) (V m : Int) (hk : k ≤ 9) (V0 : 0 ≤ V) (V1 : V < 128 ^ k) (m0 : 0 ≤ m) (m1 : m ≤ 127) (h9 : 9 ≤ k → m ≤ 1) :
    0 ≤ m * 128 ^ k ∧ V + m * 128 ^ k < 128 ^ (k + 1) ∧ m * 128 ^ k ≤ 9223372036854775808 ∧ V + m * 128 ^ k < 18446744073709551616 := by
  have hp := pow_pos' k
  have hle := pow_le k hk
  have a0 : 0 ≤ m * 128 ^ k := Int.mul_nonneg m0 (Int.le_of_lt hp)
  have a1 : m * 128 ^ k ≤ 127 * 128 ^ k := Int.mul_le_mul_of_nonneg_right m1 (Int.le_of_lt hp)
  have a2 : m * 128 ^ k ≤ 9223372036854775808 := by
    by_cases h : 9 ≤ k
    · have := Int.mul_le_mul_of_nonneg_right (h9 h) (Int.le_of_lt hp)
      omega
    · have hq : (128 : Int) ^ (k + 1) ≤ 9223372036854775808 := pow_le (k + 1) (by omega)
      rw [Int.pow_succ] at hq
      omega
  refine ⟨a0, ?_, a2, by omega⟩
  rw [Int.pow_succ]
  omega
theorem two_pow (k : Nat) : (2 : Int) ^ (7 * k) = 128 ^ k := by rw [Int.pow_mul]; rfl
theorem group_val (k : Nat) (V m : Int) (hk : k ≤ 9) (V0 : 0 ≤ V) (V1 : V < 128 ^ k) (m0 : 0 ≤ m) (m1 : m ≤ 127) (h9 : 9 ≤ k → m ≤ 1) :
    IntKind.u64.wrap (V + IntKind.u64.wrap (m * 2 ^ (7 * k))) = V + m * 128 ^ k := by
  obtain ⟨a0, a1, a2, a3⟩ := group_le k V m hk V0 V1 m0 m1 h9
  rw [u64_wrap, u64_wrap, two_pow]
  generalize m * 128 ^ k = X at *
  omega
set_option maxRecDepth 100000 in
set_option maxHeartbeats 1000000 in
theorem get_in (a : Option Addr) (n c : Nat) (l : List Int) (q : Nat) (w : World) (h : Bytes w a n c l) (hn : n ≤ 140737488355328) (hq : q ≤ n) (h0 : 0 < n) :
    Calls Try.prog 70 #[.slice a n c, .int .i64 q] w fun e w' => e = .returned (.tuple #[.int .u64 (getAt l q).1, .int .i64 (getAt l q).2.1, .int .i64 (getAt l q).2.2]) ∧ w' = w := by
  obtain ⟨b, off, rfl, hc⟩ := h.at'.resolve_left (by omega)
  have hlen := Lib.hid h.len
  have HC := Lib.hid hc; clear hc
  have HA := Lib.hid h.all
  have hcap := h.cap
  have hmost := h.most
  clear h
  obtain ⟨G, hG⟩ : ∃ G, grp 0 0 (l.drop q) = G := ⟨_, rfl⟩
  obtain ⟨N, t, E⟩ := G
  have HR := Lib.hid (getAt_of l q (by rw [hlen.out]; exact hq) hG)
  have HG := Lib.hid hG; clear hG
  have q0 : decide ((q : Int) < 0) = false := by simp
  have q1 : decide (n < q) = false := by simp; omega
  go_enter Try.func70, Try.ntmps70
  go_wp2
  go_loop [7, 18] (fun v i => GRel l q v i) (fun _ i => (10 - intOf i).toNat)
  case atStart => exact ⟨0, 0, by omega, rfl, rfl, by omega, by simp, rfl⟩
  case round =>
    obtain ⟨k, V, hk, rfl, rfl, V0, V1, hg⟩ := hrel
    have hp := pow_le k hk
    have V2 : V ≤ 9223372036854775807 := by omega
    have H1 := Lib.hid V1; clear V1 hp
    rw [HG.out] at hg
    have Hg := Lib.hid hg; clear hg
    by_cases hend : n ≤ q + k
    · have hN : (N, (if E = 0 then (q : Int) + t else 0), E) = ((0 : Int), (0 : Int), (1 : Int)) := by
        have := Hg.out
        rw [List.drop_of_length_le (by rw [hlen.out]; exact hend)] at this
        simp only [grp, Prod.mk.injEq] at this
        obtain ⟨rfl, rfl, rfl⟩ := this
        rfl
      have HN := Lib.hid hN; clear hN
      go_wp2
      go_ret3
      exact ⟨ret_three (by rw [HR.out, HN.out]), rfl⟩
    · have c1 := HC.out (q + k) (by omega)
      have cb := HA.out.getD (q + k)
      have hd := Hg.out
      rw [drop_cons l (q + k) (by rw [hlen.out]; omega)] at hd
      obtain ⟨p, hp⟩ : ∃ p, l.getD (q + k) 0 = p := ⟨_, rfl⟩
      rw [hp] at c1 cb hd
      obtain ⟨p0, p1⟩ := cb
      have HD := Lib.hid hd; clear hd hp
      by_cases hbad : (k = 9 ∧ p ≠ 1) ∨ (0 < k ∧ p = 0)
      · have hN : (N, (if E = 0 then (q : Int) + t else 0), E) = ((0 : Int), (0 : Int), (2 : Int)) := by
          have := HD.out
          unfold grp at this
          rw [if_pos hbad] at this
          simp only [Prod.mk.injEq] at this
          obtain ⟨rfl, rfl, rfl⟩ := this
          rfl
        have HN := Lib.hid hN; clear hN
        by_cases hk9 : 9 ≤ k
        · have e9 : ((k : Int) == 9) = true := by rw [beq_iff_eq]; omega
          by_cases hp1 : p = 1
          · omega
          · have e1 : (p != 1) = true := by rw [bne_iff_ne]; exact hp1
            clear hbad hp1
            go_wp2
            go_ret3
            exact ⟨ret_three (by rw [HR.out, HN.out]), rfl⟩
        · have e9 : ((k : Int) == 9) = false := by rw [beq_eq_false_iff_ne]; omega
          have hk0 : 0 < k := by omega
          have e0 : (p == 0) = true := by rw [beq_iff_eq]; omega
          clear hbad
          go_wp2
          go_ret3
          exact ⟨ret_three (by rw [HR.out, HN.out]), rfl⟩
      · have hd := HD.out
        unfold grp at hd
        rw [if_neg hbad] at hd
        have m0 : 0 ≤ p % 128 := by omega
        have m1 : p % 128 ≤ 127 := by omega
        have pp := pow_pos' k
        have HB := Lib.hid hbad; clear hbad
        have HD2 := Lib.hid hd; clear hd pp
        have s0 : (0 : Int) ≤ 7 * k := by omega
        have s1 : (7 * k : Int) ≤ 63 := by omega
        have hm9 : 9 ≤ k → p % 128 ≤ 1 := fun h => by
          have := Classical.byContradiction fun x => HB.out (.inl ⟨by omega, x⟩)
          omega
        have HM := Lib.hid hm9; clear hm9
        by_cases hlt : p < 128
        · have hN : (N, (if E = 0 then (q : Int) + t else 0), E) = (V + p % 128 * 128 ^ k, (q : Int) + k + 1, (0 : Int)) := by
            have := HD2.out
            rw [if_pos hlt] at this
            simp only [Prod.mk.injEq] at this
            obtain ⟨rfl, rfl, rfl⟩ := this
            simp; omega
          have HN := Lib.hid hN; clear hN
          by_cases hk9 : 9 ≤ k
          · have e9 : ((k : Int) == 9) = true := by rw [beq_iff_eq]; omega
            have hp1 : p = 1 := Classical.byContradiction fun x => HB.out (.inl ⟨by omega, x⟩)
            have e1 : (p != 1) = false := by rw [hp1]; rfl
            have e0 : (p == 0) = false := by rw [hp1]; rfl
            clear hp1
            go_wp2
            go_ret3
            exact ⟨ret_three (by rw [HR.out, HN.out, group_val k V _ hk V0 H1.out m0 m1 HM.out]), rfl⟩
          · have e9 : ((k : Int) == 9) = false := by rw [beq_eq_false_iff_ne]; omega
            by_cases hk0 : 0 < k
            · have e0 : (p == 0) = false := by rw [beq_eq_false_iff_ne]; exact fun x => HB.out (.inr ⟨hk0, x⟩)
              go_wp2
              go_ret3
              exact ⟨ret_three (by rw [HR.out, HN.out, group_val k V _ hk V0 H1.out m0 m1 HM.out]), rfl⟩
            · go_wp2
              go_ret3
              exact ⟨ret_three (by rw [HR.out, HN.out, group_val k V _ hk V0 H1.out m0 m1 HM.out]), rfl⟩
        · have hk9 : ¬ 9 ≤ k := fun h => by
            have := Classical.byContradiction fun x => HB.out (.inl ⟨by omega, x⟩)
            omega
          have e9 : ((k : Int) == 9) = false := by rw [beq_eq_false_iff_ne]; omega
          have e0 : (p == 0) = false := by rw [beq_eq_false_iff_ne]; omega
          go_wp2
          all_goals
            go_round
            case rel =>
              obtain ⟨a0, a1, a2, a3⟩ := group_le k V _ hk V0 H1.out m0 m1 HM.out
              refine ⟨k + 1, V + p % 128 * 128 ^ k, by omega, ?_, by go_num, by omega, a1, ?_⟩
              · rw [group_val k V _ hk V0 H1.out m0 m1 HM.out]
              · have := HD2.out
                rw [if_neg hlt] at this
                rw [HG.out, ← this]
                rfl
            case measure => simp [intOf]; omega
end Go.Proofs.Ytcjagcfjpfjanaa.vs
end
section
namespace Go.Proofs.Ytcjagcfjpfjanaa.zigs
open Go.ChangeShapes Go.WideShapes Go.ChangeAt Go.RowKit
def zig (n : Int) : Int := if n < 0 then 2 * (-(n + 1)) + 1 else 2 * n
def zag (v : Int) : Int := if v % 2 = 0 then v / 2 else -(v / 2) - 1
theorem ret_int {k : IntKind} {a b : Int} (h : a = b) : Ending.returned (.int k a) = .returned (.int k b) := by rw [h]
set_option maxHeartbeats 400000 in
theorem zig_any (n : Int) (w : World) (h0 : -9223372036854775808 ≤ n) (h1 : n ≤ 9223372036854775807) :
    Calls Try.prog 47 #[.int .i64 n] w fun e w' => e = .returned (.int .u64 (zig n)) ∧ w = w' := by
  by_cases h : n < 0
  · have hz : zig n = 2 * (-(n + 1)) + 1 := by unfold zig; rw [if_pos h]
    have Hz := Lib.hid hz; clear hz
    go_enter Try.func47, Try.ntmps47
    go_wp2
    go_ret
    exact ⟨ret_int Hz.out.symm, rfl⟩
  · have hz : zig n = 2 * n := by unfold zig; rw [if_neg h]
    have Hz := Lib.hid hz; clear hz
    go_enter Try.func47, Try.ntmps47
    go_wp2
    go_ret
    exact ⟨ret_int Hz.out.symm, rfl⟩
set_option maxHeartbeats 400000 in
theorem rzig_any (n : Int) (w : World) (h0 : -9223372036854775808 ≤ n) (h1 : n ≤ 9223372036854775807) :
    Calls Try.prog 26 #[.int .i64 n] w fun e w' => e = .returned (.int .u64 (zig n)) ∧ w = w' := by
  by_cases h : n < 0
  · have hz : zig n = 2 * (-(n + 1)) + 1 := by unfold zig; rw [if_pos h]
    have Hz := Lib.hid hz; clear hz
    go_enter Try.func26, Try.ntmps26
    go_wp2
    go_ret
    exact ⟨ret_int Hz.out.symm, rfl⟩
  · have hz : zig n = 2 * n := by unfold zig; rw [if_neg h]
    have Hz := Lib.hid hz; clear hz
    go_enter Try.func26, Try.ntmps26
    go_wp2
    go_ret
    exact ⟨ret_int Hz.out.symm, rfl⟩
set_option maxHeartbeats 400000 in
theorem zag_any (v : Int) (w : World) (h0 : 0 ≤ v) (h1 : v ≤ 18446744073709551615) :
    Calls Try.prog 52 #[.int .u64 v] w fun e w' => e = .returned (.int .i64 (zag v)) ∧ w = w' := by
  by_cases h : v % 2 = 0
  · have hz : zag v = v / 2 := by unfold zag; rw [if_pos h]
    have Hz := Lib.hid hz; clear hz
    have hb : (v % 2 == 1) = false := by simp; omega
    clear h
    go_enter Try.func52, Try.ntmps52
    go_wp2
    go_ret
    exact ⟨ret_int Hz.out.symm, rfl⟩
  · have hz : zag v = -(v / 2) - 1 := by unfold zag; rw [if_neg h]
    have Hz := Lib.hid hz; clear hz
    have hb : (v % 2 == 1) = true := by simp; omega
    clear h
    go_enter Try.func52, Try.ntmps52
    go_wp2
    go_ret
    exact ⟨ret_int Hz.out.symm, rfl⟩
theorem zig_bd (n : Int) (h0 : -9223372036854775808 ≤ n) (h1 : n ≤ 9223372036854775807) : 0 ≤ zig n ∧ zig n ≤ 18446744073709551615 := by
  unfold zig; split <;> omega
theorem zag_zig (n : Int) : zag (zig n) = n := by
  unfold zig zag; split <;> split <;> omega
end Go.Proofs.Ytcjagcfjpfjanaa.zigs
end
section
namespace Go.Proofs.Ytcjagcfjpfjanaa.am
open vt
set_option linter.unusedVariables false
set_option linter.unusedSimpArgs false
noncomputable def tE (t : VT) : List Int := Tr.fold (fun x l bs => x.k :: (vs.enc (zigs.zig x.n) ++ (vs.enc (l.length : Nat) ++ bs.flatten))) t
theorem tE_mk (x : Lab) (l : List VT) : tE (.mk x l) = x.k :: (vs.enc (zigs.zig x.n) ++ (vs.enc (l.length : Nat) ++ (l.map tE).flatten)) := Tr.fold_mk _ x l
def frmC (x : Lab) : Prop := x.s = ⟨#[]⟩ ∧ x.f = 0 ∧ x.t = 0
instance (x : Lab) : Decidable (frmC x) := by unfold frmC; infer_instance
def fstE : List Int → Int
  | [] => 0
  | e :: r => if e = 0 then fstE r else e
noncomputable def erT (t : VT) : Int → Int := Tr.fold (fun x l fs lv => if 64 < lv then 7 else if ¬ (1 ≤ x.k ∧ x.k ≤ 36) then 23 else if ¬ frmC x then 2 else fstE (fs.map fun f => f (lv + 1))) t
theorem erT_mk (x : Lab) (l : List VT) (lv : Int) : erT (.mk x l) lv = if 64 < lv then 7 else if ¬ (1 ≤ x.k ∧ x.k ≤ 36) then 23 else if ¬ frmC x then 2 else fstE (l.map fun y => erT y (lv + 1)) := by
  unfold erT
  rw [Tr.fold_mk, List.map_map]
  rfl
theorem fst_snoc (e : Int) : ∀ l : List Int, fstE (l ++ [e]) = if fstE l = 0 then e else fstE l
  | [] => by unfold fstE; simp [fstE]; intro h; exact h.symm
  | d :: l => by
    rw [List.cons_append]
    unfold fstE
    by_cases h : d = 0
    · rw [if_pos h, if_pos h, fst_snoc e l]
    · rw [if_neg h, if_neg h, if_neg h]
theorem fst_zero : ∀ {l : List Int}, fstE l = 0 → ∀ e ∈ l, e = 0
  | [], _, e, he => by cases he
  | d :: l, h, e, he => by
    unfold fstE at h
    by_cases hd : d = 0
    · rw [if_pos hd] at h
      rcases List.mem_cons.1 he with rfl | he
      · exact hd
      · exact fst_zero h e he
    · rw [if_neg hd] at h; exact absurd h hd
theorem er_ok {x : Lab} {l : List VT} {lv : Int} (h : erT (.mk x l) lv = 0) : lv ≤ 64 ∧ (1 ≤ x.k ∧ x.k ≤ 36) ∧ frmC x ∧ ∀ y ∈ l, erT y (lv + 1) = 0 := by
  rw [erT_mk] at h
  by_cases h1 : 64 < lv
  · rw [if_pos h1] at h; exact absurd h (by decide)
  rw [if_neg h1] at h
  by_cases h2 : 1 ≤ x.k ∧ x.k ≤ 36
  · rw [if_neg (fun k => k h2)] at h
    by_cases h3 : frmC x
    · rw [if_neg (fun k => k h3)] at h
      exact ⟨by omega, h2, h3, fun y hy => fst_zero h _ (List.mem_map.2 ⟨y, hy, rfl⟩)⟩
    · rw [if_pos h3] at h; exact absurd h (by decide)
  · rw [if_pos h2] at h; exact absurd h (by decide)
theorem enc_ln (v : Int) : 1 ≤ (vs.enc v).length ∧ (vs.enc v).length ≤ 10 := vs.encF_len 9 v
theorem tE_len (t : VT) : (tE t).length ≤ 21 * t.size := by
  induction t using Tr.ind with
  | h x l ih =>
  rw [tE_mk, Tr.size_mk]
  have h1 := enc_ln (zigs.zig x.n)
  have h2 := enc_ln (l.length : Nat)
  have h3 : ((l.map tE).flatten).length ≤ 21 * (l.map Tr.size).sum := by
    clear h2
    induction l with
    | nil => simp
    | cons y l ihl =>
      have a := ih y (by simp)
      have b := ihl (fun z hz => ih z (by simp [hz]))
      simp only [List.map_cons, List.flatten_cons, List.length_append, List.sum_cons]
      omega
  simp only [List.length_cons, List.length_append]
  omega
theorem tE_bytes (t : VT) : in64 t → t.size ≤ 1000000 → ∀ lv, erT t lv = 0 → ∀ z ∈ tE t, 0 ≤ z ∧ z ≤ 255 := by
  induction t using Tr.ind with
  | h x l ih =>
  intro hi hsz lv he z hz
  have hlen := Tr.len_size (x := x) (l := l)
  obtain ⟨h1, h2, h3, h4⟩ := er_ok he
  obtain ⟨hx, hl⟩ := (Tr.all_mk _ _ _).1 hi
  rw [tE_mk] at hz
  have ab : ∀ v : Int, 0 ≤ v → v ≤ 18446744073709551615 → ∀ z ∈ vs.enc v, 0 ≤ z ∧ z ≤ 255 := fun v a b => vs.enc_bytes v a b
  rcases List.mem_cons.1 hz with rfl | hz
  · omega
  rcases List.mem_append.1 hz with hz | hz
  · have := zigs.zig_bd x.n (by have := hx.2.1; omega) (by have := hx.2.1; omega)
    exact ab _ this.1 this.2 z hz
  rcases List.mem_append.1 hz with hz | hz
  · exact ab _ (by omega) (by omega) z hz
  · obtain ⟨L, hL, hz⟩ := List.mem_flatten.1 hz
    obtain ⟨y, hy, rfl⟩ := List.mem_map.1 hL
    obtain ⟨i, hi⟩ := List.mem_iff_getElem?.1 hy
    have := Tr.size_at (x := x) hi
    exact ih y hy (hl y hy) (by omega) _ (h4 y hy) z hz
def seqW : List (List Int × Int) → List Int
  | [] => []
  | p :: r => p.1 ++ (if p.2 = 0 then seqW r else [])
noncomputable def wrT (t : VT) : Int → List Int := Tr.fold (fun x l fs tr => if 64 ≤ tr then [] else (if 1 ≤ x.k ∧ x.k ≤ 36 then [x.k] else []) ++ (vs.enc (zigs.zig x.n) ++ (vs.enc (l.length : Nat) ++ (if (1 ≤ x.k ∧ x.k ≤ 36) ∧ frmC x then seqW ((l.zip fs).map fun p => (p.2 (tr + 1), erT p.1 (tr + 2))) else [])))) t
theorem wrT_mk (x : Lab) (l : List VT) (tr : Int) : wrT (.mk x l) tr = if 64 ≤ tr then [] else (if 1 ≤ x.k ∧ x.k ≤ 36 then [x.k] else []) ++ (vs.enc (zigs.zig x.n) ++ (vs.enc (l.length : Nat) ++ (if (1 ≤ x.k ∧ x.k ≤ 36) ∧ frmC x then seqW (l.map fun y => (wrT y (tr + 1), erT y (tr + 2))) else []))) := by
  have e : ∀ l : List VT, ((l.zip (l.map fun y => wrT y)).map fun p => (p.2 (tr + 1), erT p.1 (tr + 2))) = l.map fun y => (wrT y (tr + 1), erT y (tr + 2)) := fun l => by
    induction l with
    | nil => rfl
    | cons y l ih => simp only [List.map_cons, List.zip_cons_cons, ih]
  rw [← e l]
  unfold wrT
  rw [Tr.fold_mk]
theorem seq_snoc (p : List Int × Int) : ∀ l : List (List Int × Int), seqW (l ++ [p]) = if fstE (l.map (·.2)) = 0 then seqW l ++ p.1 else seqW l
  | [] => by simp [seqW, fstE]
  | q :: l => by
    rw [List.cons_append, seqW, List.map_cons, seqW]
    unfold fstE
    by_cases h : q.2 = 0
    · rw [if_pos h, if_pos h, if_pos h, seq_snoc p l]
      split
      · rw [List.append_assoc]
      · rfl
    · rw [if_neg h, if_neg h, if_neg h, if_neg h]
theorem seq_all : ∀ {l : List (List Int × Int)}, (∀ p ∈ l, p.2 = 0) → seqW l = (l.map (·.1)).flatten
  | [], _ => rfl
  | p :: l, h => by
    rw [seqW, if_pos (h p (by simp)), seq_all (fun q hq => h q (by simp [hq]))]
    rfl
theorem wr_ok (t : VT) : ∀ tr, erT t (tr + 1) = 0 → wrT t tr = tE t := by
  induction t using Tr.ind with
  | h x l ih =>
  intro tr h
  obtain ⟨h1, h2, h3, h4⟩ := er_ok h
  have h4 : ∀ y ∈ l, erT y (tr + 2) = 0 := fun y hy => by have := h4 y hy; rwa [show tr + 1 + 1 = tr + 2 by omega] at this
  rw [wrT_mk, tE_mk, if_neg (by omega), if_pos h2, if_pos ⟨h2, h3⟩, seq_all (fun p hp => by
    obtain ⟨y, hy, rfl⟩ := List.mem_map.1 hp
    exact h4 y hy), List.map_map]
  have e : (l.map ((·.1) ∘ fun y => (wrT y (tr + 1), erT y (tr + 2)))) = l.map tE := List.map_congr_left fun y hy => ih y hy (tr + 1) (by rw [show tr + 1 + 1 = tr + 2 by omega]; exact h4 y hy)
  rw [e]
  rfl
theorem seq_len : ∀ (l : List (List Int × Int)) (ns : List Nat), l.length = ns.length → (∀ (i : Nat) p n, l[i]? = some p → ns[i]? = some n → p.1.length ≤ n) → (seqW l).length ≤ ns.sum
  | [], ns, _, _ => by simp [seqW]
  | p :: l, [], h, _ => by simp at h
  | p :: l, n :: ns, h, hb => by
    have h1 := hb 0 p n rfl rfl
    have h2 := seq_len l ns (by simpa using h) (fun i q m hq hm => hb (i + 1) q m hq hm)
    rw [seqW, List.length_append, List.sum_cons]
    split
    · omega
    · simp; omega
theorem wr_len (t : VT) : ∀ tr, (wrT t tr).length ≤ 21 * t.size := by
  induction t using Tr.ind with
  | h x l ih =>
  intro tr
  rw [wrT_mk, Tr.size_mk]
  have h1 := enc_ln (zigs.zig x.n)
  have h2 := enc_ln (l.length : Nat)
  have h3 := seq_len (l.map fun y => (wrT y (tr + 1), erT y (tr + 2))) (l.map fun y => 21 * y.size) (by simp) (fun i p n hp hn => by
    rw [List.getElem?_map] at hp hn
    obtain ⟨y, hy, rfl⟩ := Option.map_eq_some_iff.1 hp
    rw [hy] at hn
    obtain rfl := Option.some.inj hn
    exact ih y (List.mem_of_getElem? hy) (tr + 1))
  have h4 : (l.map fun y => 21 * y.size).sum = 21 * (l.map Tr.size).sum := by
    clear h3 ih h2
    induction l with
    | nil => rfl
    | cons y l ih => simp only [List.map_cons, List.sum_cons, ih]; omega
  split
  · simp
  · simp only [List.length_append]
    split <;> split <;> simp <;> omega
end Go.Proofs.Ytcjagcfjpfjanaa.am
end
section
namespace Go.Proofs.Ytcjagcfjpfjanaa.vs
open Go.ChangeShapes Go.WideShapes Go.ChangeAt Go.RowKit
open bs
set_option linter.unusedVariables false
theorem getAt_out (l : List Int) (at' : Int) (h : at' < 0 ∨ (l.length : Int) < at') : getAt l at' = (0, 0, 13) := by unfold getAt; rw [if_pos h]
theorem getAt_end (l : List Int) (h : l.length = 0) : getAt l 0 = (0, 0, 1) := by
  rw [List.eq_nil_of_length_eq_zero h]; rfl
set_option maxRecDepth 100000 in
set_option maxHeartbeats 1000000 in
theorem get_any (a : Option Addr) (n c : Nat) (l : List Int) (at' : Int) (w : World) (h : Bytes w a n c l) (hn : n ≤ 140737488355328) (h0 : -9223372036854775808 ≤ at') (h1 : at' ≤ 9223372036854775807) :
    Calls Try.prog 70 #[.slice a n c, .int .i64 at'] w fun e w' => e = .returned (.tuple #[.int .u64 (getAt l at').1, .int .i64 (getAt l at').2.1, .int .i64 (getAt l at').2.2]) ∧ w' = w := by
  by_cases hlo : at' < 0
  · rw [getAt_out l at' (.inl hlo)]
    clear h
    go_enter Try.func70, Try.ntmps70
    go_wp2
    go_ret3
    exact ⟨rfl, rfl⟩
  · by_cases hhi : (n : Int) < at'
    · rw [getAt_out l at' (.inr (by rw [h.len]; exact hhi))]
      clear h
      have d0 : decide (at' < 0) = false := by simpa using hlo
      go_enter Try.func70, Try.ntmps70
      go_wp2
      go_ret3
      exact ⟨rfl, rfl⟩
    · by_cases hz : n = 0
      · subst hz
        obtain rfl : at' = 0 := by omega
        rw [getAt_end l h.len]
        clear h
        go_enter Try.func70, Try.ntmps70
        go_wp2
        go_loop [7, 18] (fun v i => v = .int .u64 0 ∧ i = .int .i64 0) (fun _ _ => 0)
        case atStart => exact ⟨rfl, rfl⟩
        case round =>
          obtain ⟨rfl, rfl⟩ := hrel
          go_wp2
          go_ret3
          exact ⟨rfl, rfl⟩
      · obtain ⟨q, rfl⟩ := Int.eq_ofNat_of_zero_le (show 0 ≤ at' by omega)
        exact get_in a n c l q w h hn (by omega) (by omega)
theorem byteT : ByteT Try.prog 22 5 := ⟨Try.underlying22, by kernel_rfl⟩
def BRel (w : World) (v : Int) (x out : Value) (wr : World) : Prop :=
  ∃ (k : Nat) (V : Int) (a : Option Addr) (n c : Nat) (l : List Int), x = .int .u64 V ∧ out = .slice a n c ∧ OwnB wr w.heap.size 5 a n c l ∧ Below w.heap.size w wr ∧
    0 ≤ V ∧ V < 2 * 128 ^ k ∧ n + k = 9 ∧ l ++ encF k V = enc v
def BPost (w : World) (v : Int) (e : Ending) (w' : World) : Prop :=
  ∃ (a : Option Addr) (n c : Nat), e = .returned (.slice a n c) ∧ OwnB w' w.heap.size 5 a n c (enc v) ∧ Below w.heap.size w w'
theorem u8_in (n : Int) (h0 : 0 ≤ n) (h1 : n ≤ 255) : IntKind.u8.wrap n = n := by
  simp only [IntKind.wrap, IntKind.signed, IntKind.bits, Bool.false_and]
  rw [if_neg (by simp)]
  omega
theorem small_of (k : Nat) (V : Int) (h : V < 2 * 128 ^ k) (hk : k ≤ 9) : V ≤ 18446744073709551615 := by
  have : ∀ j, j ≤ 9 → (128 : Int) ^ j ≤ 9223372036854775808 := by
    intro j hj
    have : j = 0 ∨ j = 1 ∨ j = 2 ∨ j = 3 ∨ j = 4 ∨ j = 5 ∨ j = 6 ∨ j = 7 ∨ j = 8 ∨ j = 9 := by omega
    rcases this with rfl | rfl | rfl | rfl | rfl | rfl | rfl | rfl | rfl | rfl <;> decide
  have := this k hk
  omega
theorem big_of (k : Nat) (V : Int) (h : V < 2 * 128 ^ k) (hV : 128 ≤ V) : ∃ j, k = j + 1 ∧ V / 128 < 2 * 128 ^ j := by
  cases k with
  | zero => simp at h; omega
  | succ j => exact ⟨j, rfl, by rw [Int.pow_succ] at h; omega⟩
theorem encF_big (j : Nat) (V : Int) (hV : 128 ≤ V) : encF (j + 1) V = (V % 128 + 128) :: encF j (V / 128) := by rw [encF_succ, if_neg (by omega)]
theorem encF_small (k : Nat) (V : Int) (hV : V < 128) : encF k V = [V] := by
  cases k with
  | zero => rfl
  | succ j => rw [encF_succ, if_pos hV]
set_option maxHeartbeats 400000 in
theorem bytes_any (v : Int) (w : World) (h0 : 0 ≤ v) (h1 : v ≤ 18446744073709551615) :
    Calls Try.prog 69 #[.int .u64 v] w (BPost w v) := by
  go_enter Try.func69, Try.ntmps69
  go_wp2
  go_loopw [0, 3] (fun x out wr => BRel w v x out wr) (fun x _ _ => (intOf x).toNat)
  case atStart => exact ⟨9, v, none, 0, 0, [], rfl, rfl, OwnB.nil _ _ _, Below.refl _ _, h0, by omega, rfl, rfl⟩
  case round =>
    obtain ⟨k, V, a, n, c, l, rfl, rfl, ho, hb, V0, V1, hk, he⟩ := hrel
    have hV := small_of k V V1 (by omega)
    have hn9 : n ≤ 9 := by omega
    have HO := Lib.hid ho; have HB := Lib.hid hb; have HE := Lib.hid he; have H1 := Lib.hid V1; have HK := Lib.hid hk
    have hs := hb.size
    clear ho hb he V1 hk
    by_cases hbig : 128 ≤ V
    · go_wp2_with (at_builtin; refine wpList_append_b byteT rfl _ _ rfl w.heap.size rfl (HO.out.alloc _) rfl (Bytes.one _ _ _ ?_) ?_ ?_ ?_)
      · omega
      · omega
      · (try simp); omega
      intro a2 c2 w' ho2 hb2 _
      have hb3 : Below w.heap.size w w' := (HB.out.alloc hs _).trans hb2
      have HO2 := Lib.hid ho2; have HB3 := Lib.hid hb3; clear ho2 hb2 hb3
      go_wp2
      go_roundw
      case rel =>
        obtain ⟨j, rfl, hj⟩ := big_of k V H1.out hbig
        have e1 := HK.out
        refine ⟨j, V / 128, a2, n + 1, c2, l ++ [V % 128 + 128], rfl, rfl, (by first | exact HO2.out | (rw [Int.add_comm]; exact HO2.out)), HB3.out, by omega, hj, by omega, ?_⟩
        rw [List.append_assoc, List.singleton_append, ← encF_big j V hbig]
        exact HE.out
      case measure => simp [intOf]; omega
    · have hsm : V < 128 := by omega
      go_wp2_with (at_builtin; refine wpList_append_b byteT rfl _ _ rfl w.heap.size rfl (HO.out.alloc _) rfl (Bytes.one _ _ _ ?_) ?_ ?_ ?_)
      · omega
      · omega
      · (try simp); omega
      intro a2 c2 w' ho2 hb2 _
      have hb3 : Below w.heap.size w w' := (HB.out.alloc hs _).trans hb2
      have HO2 := Lib.hid ho2; have HB3 := Lib.hid hb3; clear ho2 hb2 hb3
      go_wp2
      go_ret
      refine ⟨a2, n + 1, c2, rfl, ?_, HB3.out⟩
      rw [← HE.out, encF_small k V hsm]
      exact HO2.out
set_option maxHeartbeats 400000 in
theorem rbytes_any (v : Int) (w : World) (h0 : 0 ≤ v) (h1 : v ≤ 18446744073709551615) :
    Calls Try.prog 25 #[.int .u64 v] w (BPost w v) := by
  go_enter Try.func25, Try.ntmps25
  go_wp2
  go_loopw [0, 3] (fun x out wr => BRel w v x out wr) (fun x _ _ => (intOf x).toNat)
  case atStart => exact ⟨9, v, _, 0, 0, [], rfl, rfl, OwnB.made _ _ _ [] _ rfl (Nat.le_refl _) (by simp [maxLen]) (by simp [AllB]), (Below.refl _ _).alloc (Nat.le_refl _) _, h0, by omega, rfl, rfl⟩
  case round =>
    obtain ⟨k, V, a, n, c, l, rfl, rfl, ho, hb, V0, V1, hk, he⟩ := hrel
    have hV := small_of k V V1 (by omega)
    have hn9 : n ≤ 9 := by omega
    have HO := Lib.hid ho; have HB := Lib.hid hb; have HE := Lib.hid he; have H1 := Lib.hid V1; have HK := Lib.hid hk
    have hs := hb.size
    clear ho hb he V1 hk
    by_cases hbig : 128 ≤ V
    · go_wp2_with (at_builtin; refine wpList_append_b byteT rfl _ _ rfl w.heap.size rfl (HO.out.alloc _) rfl (Bytes.one _ _ _ ?_) ?_ ?_ ?_)
      · omega
      · omega
      · (try simp); omega
      intro a2 c2 w' ho2 hb2 _
      have hb3 : Below w.heap.size w w' := (HB.out.alloc hs _).trans hb2
      have HO2 := Lib.hid ho2; have HB3 := Lib.hid hb3; clear ho2 hb2 hb3
      go_wp2
      go_roundw
      case rel =>
        obtain ⟨j, rfl, hj⟩ := big_of k V H1.out hbig
        have e1 := HK.out
        refine ⟨j, V / 128, a2, n + 1, c2, l ++ [V % 128 + 128], rfl, rfl, (by first | exact HO2.out | (rw [Int.add_comm]; exact HO2.out)), HB3.out, by omega, hj, by omega, ?_⟩
        rw [List.append_assoc, List.singleton_append, ← encF_big j V hbig]
        exact HE.out
      case measure => simp [intOf]; omega
    · have hsm : V < 128 := by omega
      go_wp2_with (at_builtin; refine wpList_append_b byteT rfl _ _ rfl w.heap.size rfl (HO.out.alloc _) rfl (Bytes.one _ _ _ ?_) ?_ ?_ ?_)
      · omega
      · omega
      · (try simp); omega
      intro a2 c2 w' ho2 hb2 _
      have hb3 : Below w.heap.size w w' := (HB.out.alloc hs _).trans hb2
      have HO2 := Lib.hid ho2; have HB3 := Lib.hid hb3; clear ho2 hb2 hb3
      go_wp2
      go_ret
      refine ⟨a2, n + 1, c2, rfl, ?_, HB3.out⟩
      rw [← HE.out, encF_small k V hsm]
      exact HO2.out
end Go.Proofs.Ytcjagcfjpfjanaa.vs
end
section
namespace Go.Proofs.Ytcjagcfjpfjanaa.am
open Go.ChangeShapes Go.WideShapes Go.ChangeAt Go.RowKit
set_option linter.unusedVariables false
set_option linter.unusedSimpArgs false
def oldS (w : World) : CS := fun b _ => b < w.heap.size
def Ty (P : Program) : Nat → TypeId → List PV → Prop
  | 0, _, _ => False
  | n + 1, t, ps =>
    match P.underlying t with
    | some .bool => ∃ b, ps = [.lit (.bool b)]
    | some (.int k) => ∃ z, ps = [.lit (.int k z)] ∧ (Lit.int k z).wf = true
    | some .string => ∃ s : ByteArray, ps = [.lit (.string s)] ∧ s.size ≤ maxLen
    | some (.slice e) => ∃ l : List (List PV), ps = [.sl (P.cellsOf e) l] ∧ l.length ≤ maxLen ∧ ∀ x ∈ l, Ty P n e x
    | some (.struct fs) => ps.length = P.cellsOf t ∧ ∀ f ∈ fs.toList, Ty P n f.type ((ps.drop f.offset).take (P.cellsOf f.type))
    | _ => False
def contig (P : Program) : Nat → List Field → Nat → Bool
  | off, [], tot => decide (off = tot)
  | off, f :: fs, tot => decide (f.offset = off) && contig P (off + P.cellsOf f.type) fs tot
def okTy (P : Program) (cl : List TypeId) (t : TypeId) : Bool :=
  match P.underlying t with
  | some .bool => true
  | some (.int _) => true
  | some .string => true
  | some (.slice e) => cl.contains e && decide (0 < P.cellsOf e)
  | some (.struct fs) => (fs.toList.all fun f => cl.contains f.type) && contig P 0 fs.toList (P.cellsOf t)
  | _ => false
section
variable {P : Program} {S : CS} {w : World}
theorem RepPs.take {vs : List Value} {l : List PV} (h : RepPs S w vs l) (n : Nat) : RepPs S w (vs.take n) (l.take n) := by
  have := (RepPs.cs (γ := fun _ => .un)).1 h
  refine (RepPs.cs (γ := fun _ => .un)).2 ?_
  rw [List.map_take]; exact RepCs.take this n
theorem fields_rep {n : Nat} {cs : List Value} : ∀ (fs : List Field) (off tot : Nat) (ps0 : List PV), RepPs S w (cs.take off) ps0 → ps0.length = off → off ≤ cs.length → contig P off fs tot = true → tot = cs.length →
    (∀ f ∈ fs, ∃ q, RepPs S w ((cs.drop f.offset).take (P.cellsOf f.type)) q ∧ Ty P n f.type q) →
    ∃ ps, RepPs S w cs ps ∧ ps.take off = ps0 ∧ ∀ f ∈ fs, off ≤ f.offset ∧ Ty P n f.type ((ps.drop f.offset).take (P.cellsOf f.type))
  | [], off, tot, ps0, h0, hl, hle, hc, ht, _ => by
    have : off = tot := by simpa [contig] using hc
    subst this
    subst ht
    rw [List.take_length] at h0
    exact ⟨ps0, h0, by rw [← hl, List.take_length], fun f hf => by simp at hf⟩
  | f :: fs, off, tot, ps0, h0, hl, hle, hc, ht, hf => by
    unfold contig at hc
    rw [Bool.and_eq_true] at hc
    have hoff : f.offset = off := of_decide_eq_true hc.1
    obtain ⟨q, hq, hty⟩ := hf f (by simp)
    rw [hoff] at hq
    obtain ⟨sz, hsz⟩ : ∃ sz, P.cellsOf f.type = sz := ⟨_, rfl⟩
    rw [hsz] at hq hc
    have hend : off + sz ≤ cs.length := by
      have key : ∀ (fs : List Field) (o : Nat), contig P o fs tot = true → o ≤ tot := fun fs => by
        induction fs with
        | nil => intro o h; have : o = tot := by simpa [contig] using h
                 omega
        | cons g gs ih => intro o h; unfold contig at h; rw [Bool.and_eq_true] at h; have := ih _ h.2; omega
      have := key fs _ hc.2
      omega
    have hql : q.length = sz := by rw [← hq.1, List.length_take, List.length_drop]; omega
    have h1 : RepPs S w (cs.take (off + sz)) (ps0 ++ q) := by
      rw [List.take_add]; exact h0.append hq
    obtain ⟨ps, k1, k2, k3⟩ := fields_rep fs (off + sz) tot (ps0 ++ q) h1 (by rw [List.length_append, hl, hql]) hend hc.2 ht (fun g hg => hf g (by simp [hg]))
    refine ⟨ps, k1, ?_, fun g hg => ?_⟩
    · have : (ps.take (off + sz)).take off = (ps0 ++ q).take off := by rw [k2]
      rw [List.take_take, Nat.min_eq_left (by omega)] at this
      rw [this, ← hl, List.take_left']; rfl
    · rcases List.mem_cons.1 hg with rfl | hg
      · refine ⟨by omega, ?_⟩
        rw [hoff, hsz]
        have : (ps.take (off + sz)).drop off = (ps0 ++ q).drop off := by rw [k2]
        rw [List.drop_take, Nat.add_sub_cancel_left] at this
        rw [this, ← hl, List.drop_left']; · exact hty
        rfl
      · have := k3 g hg; exact ⟨by omega, this.2⟩
theorem trod_rep {H : Type} {enc : TypeId × Value → H} {cl : List TypeId} (hcl : cl.all (okTy P cl) = true) : ∀ (n : Nat) (t : TypeId) (cs : List Value) (y : DataW H × List MemPlace), t ∈ cl → DataW.trod enc P w 0 (fun _ => true) true n t cs = some y → ∃ ps, RepPs (oldS w) w cs ps ∧ Ty P n t ps := by
  intro n
  induction n with
  | zero => intro t cs y _ h; simp [DataW.trod] at h
  | succ n ih =>
    intro t cs y ht h
    have hok := List.all_eq_true.1 hcl t ht
    have one : ∀ {v : Value} {p : PV}, RepP (oldS w) w v p → RepPs (oldS w) w [v] [p] := fun {v p} hp => ⟨rfl, fun i c hc => by
      cases i with
      | zero => simp at hc; subst hc; exact ⟨v, rfl, hp⟩
      | succ i => simp at hc⟩
    unfold okTy at hok
    cases hu : P.underlying t with
    | none => rw [hu] at hok; cases hok
    | some u =>
      rw [hu] at hok
      unfold Ty
      rw [hu]
      cases u with
      | bool =>
        obtain ⟨b, rfl, _⟩ := DataW.trod_bool hu h
        exact ⟨_, one (.lit _ rfl), b, rfl⟩
      | int k =>
        obtain ⟨z, rfl, _, hz⟩ := DataW.trod_int hu h
        exact ⟨_, one (.lit _ rfl), z, rfl, hz⟩
      | string =>
        obtain ⟨s, rfl, _, hs⟩ := DataW.trod_string hu h
        exact ⟨_, one (.lit _ rfl), s, rfl, hs⟩
      | slice e =>
        dsimp only at hok
        rw [Bool.and_eq_true] at hok
        have he : e ∈ cl := by simpa using hok.1
        have hpos : 0 < P.cellsOf e := of_decide_eq_true hok.2
        rcases DataW.trod_slice hu h with ⟨rfl, _⟩ | ⟨x, len, cap, elems, rest, m, hmf, rfl, hd, _, hl, hm, hlen, hele, hsp, _⟩
        · exact ⟨_, one (.emp none 0 (P.cellsOf e) (by omega) (fun _ => rfl)), [], rfl, Nat.zero_le _, fun x hx => by simp at hx⟩
        · have hmn : m = n := by omega
          subst hmn
          rcases Nat.eq_zero_or_pos len with h0 | hn
          · subst h0
            exact ⟨_, one (.emp (some x) cap (P.cellsOf e) (by unfold maxLen at hm; omega) (fun h => by cases h)), [], rfl, Nat.zero_le _, fun x hx => by simp at hx⟩
          · obtain ⟨b, off, spot⟩ := x
            obtain ⟨sz, hsz⟩ : ∃ sz, P.cellsOf e = sz := ⟨_, rfl⟩
            rw [hsz] at hpos hele
            show ∃ ps, RepPs (oldS w) w [Value.slice (some ⟨b, off, spot⟩) len cap] ps ∧ ∃ l : List (List PV), ps = [.sl (P.cellsOf e) l] ∧ l.length ≤ maxLen ∧ ∀ x ∈ l, Ty P m e x
            rw [hsz]
            have each : ∀ i, i < len → ∃ cs y, w.cells? 0 ((⟨b, off, spot⟩ : Addr).add (i * sz)) sz = some cs ∧ DataW.trod enc P w 0 (fun _ => true) true m e cs = some y := by
              intro i hi
              have := hele i hi
              have hs : ∃ y, elems[i]? = some y := ⟨elems[i], List.getElem?_eq_getElem (by omega)⟩
              obtain ⟨y, hy⟩ := hs
              rw [hy] at this
              obtain ⟨cs, h1, h2⟩ := Option.bind_eq_some_iff.1 this
              exact ⟨cs, y, h1, h2⟩
            obtain ⟨cs0, y0, k0, _⟩ := each 0 hn
            have c0 := (World.cells?_some k0)
            have hspot : spot = none := by
              have h1 := c0.2.2 0 hpos
              have hlt : (0 : Nat) < cs0.length := by have := c0.2.1; omega
              rw [List.getElem?_eq_getElem hlt] at h1
              simpa [Addr.add] using World.cell?_spot h1
            subst hspot
            have hblk : b < w.heap.size := by
              have := World.cells?_block k0 hpos
              simpa [addr_add] using this
            obtain ⟨L, hL, hq⟩ := bs.choose_list len (fun i (x : List Value × List PV) => x.1.length = sz ∧ (∀ j, j < sz → w.cell? ⟨b, off + i * sz + j, none⟩ = x.1[j]?) ∧ RepPs (oldS w) w x.1 x.2 ∧ Ty P m e x.2) (fun i hi => by
              obtain ⟨cs, y, k1, k2⟩ := each i hi
              have k3 := World.cells?_some k1
              rw [addr_add] at k3
              obtain ⟨ps, p1, p2⟩ := ih e cs y he k2
              refine ⟨(cs, ps), k3.2.1, fun j hj => ?_, p1, p2⟩
              have := k3.2.2 j hj
              rwa [addr_add] at this)
            have at' : ∀ i e', (L.map (·.2))[i]? = some e' → ∃ x : List Value × List PV, L[i]? = some x ∧ e' = x.2 := fun i e' h => by
              rw [List.getElem?_map] at h
              obtain ⟨x, h1, h2⟩ := Option.map_eq_some_iff.1 h
              exact ⟨x, h1, h2.symm⟩
            refine ⟨_, one (.sl b off len cap sz (L.map (·.2)) (by rw [List.length_map, hL]) hn hl (by unfold maxLen at hm; omega) (fun e' he' => ?_)
              (fun i j => ((L[i]?).bind (fun x => x.1[j]?)).getD undef) (fun i e' j p h1 h2 => ?_) (fun i e' j p h1 h2 => ?_)), L.map (·.2), rfl, by rw [List.length_map, hL]; omega, fun x hx => ?_⟩
            · obtain ⟨i, hi⟩ := List.mem_iff_getElem?.1 he'
              obtain ⟨x, hx, rfl⟩ := at' i e' hi
              have := hq i x hx
              rw [← this.2.2.1.1, this.1]
            · obtain ⟨x, hx, rfl⟩ := at' i e' h1
              have := hq i x hx
              have hj : j < sz := by have := (List.getElem?_eq_some_iff.1 h2).1; rw [← (hq i x hx).2.2.1.1, (hq i x hx).1] at this; exact this
              refine ⟨hblk, ?_⟩
              rw [this.2.1 j hj, hx]
              obtain ⟨v, hv, _⟩ := this.2.2.1.2 j p h2
              rw [hv]; simp [hv]
            · obtain ⟨x, hx, rfl⟩ := at' i e' h1
              obtain ⟨v, hv, hr⟩ := (hq i x hx).2.2.1.2 j p h2
              rw [hx]; simp [hv]; exact hr
            · obtain ⟨i, hi⟩ := List.mem_iff_getElem?.1 hx
              obtain ⟨z, hz, rfl⟩ := at' i x hi
              exact (hq i z hz).2.2.2
      | struct fs =>
        dsimp only at hok
        rw [Bool.and_eq_true] at hok
        obtain ⟨xs, m, hmf, _, hcl', hxl, hg⟩ := DataW.trod_struct hu h
        have hmn : m = n := by omega
        subst hmn
        obtain ⟨ps, k1, _, k3⟩ := fields_rep (P := P) (S := oldS w) (w := w) (n := m) (cs := cs) fs.toList 0 (P.cellsOf t) [] ⟨by simp, fun i c h => by simp at h⟩ rfl (Nat.zero_le _) hok.2 hcl'.symm (fun f hf => by
          obtain ⟨i, hi⟩ := List.mem_iff_getElem?.1 hf
          have hi' : fs[i]? = some f := by simpa using hi
          have h1 := hg i f hi'
          have hlt : i < xs.length := by
            have := (Array.getElem?_eq_some_iff.1 hi').1
            omega
          rw [List.getElem?_eq_getElem hlt] at h1
          exact ih f.type _ _ (by have := List.all_eq_true.1 hok.1 f hf; simpa using this) h1)
        exact ⟨ps, k1, by rw [← k1.1, hcl'], fun f hf => (k3 f hf).2⟩
      | _ => cases hok
theorem open_agg {H : Type} {enc : TypeId × Value → H} {cl : List TypeId} {t : TypeId} {cs : Array Value} {d : DataW H} {p : List MemPlace} (hcl : cl.all (okTy P cl) = true) (ht : t ∈ cl) (h : DataW.Trod enc P w 0 (fun _ => true) true t (.agg cs) d p) : ∃ n ps, RepV (fun _ => .un) (oldS w) w (.agg cs) (.v (.agg (ps.map .pv))) ∧ Ty P n t ps := by
  obtain ⟨n, h⟩ := h
  obtain ⟨ps, k1, k2⟩ := trod_rep hcl n t _ _ ht h
  exact ⟨n, ps, ⟨cs, rfl, RepPs.cs.1 k1⟩, k2⟩
theorem calls_of_row {f : FuncId} {args : List AV} {vs : List Value} (h : Row P f args [] (.v (.c (.pv (.lit (.bool true))))) []) (hv : RepVs (fun _ => .un) (oldS w) w vs args) : Calls P f vs.toArray w fun e w' => e = .returned (.bool true) ∧ Below w.heap.size w w' := by
  have hm : Mem ⟨w, oldS w, fun _ => .un, []⟩ (fun x => ([] : List AO)[x]?) (fun x => ([] : List AO).length ≤ x) (fun _ => .un) (oldS w) w :=
    ⟨rfl, rfl, rfl, Nat.le_refl _, fun _ _ _ => rfl, fun _ _ h => ⟨h, rfl⟩, fun _ _ h => .inl h, fun _ _ h => h, GOn.refl _, fun _ _ => rfl, fun _ _ => .inl rfl, fun x o h => by simp at h, fun x y _ b h _ => by simp [G.bk] at h, fun x b h => by simp [G.bk] at h⟩
  refine (h.spec _ _ w vs hm hv).mono ?_
  rintro e w' ⟨v, γ', S', rfl, m, hr⟩
  obtain ⟨rfl, _⟩ := lit_inv hr
  exact ⟨rfl, m.os, m.tape, m.output, m.size, fun b hb => m.frame b hb (fun x h => by simp [G.bk] at h)⟩
end
end Go.Proofs.Ytcjagcfjpfjanaa.am
end
section
namespace Go.Proofs.Ytcjagcfjpfjanaa.am
open Go.ChangeShapes Go.WideShapes Go.ChangeAt Go.RowKit
set_option linter.unusedVariables false
abbrev newS (S : CS) (w w' : World) : CS := fun b o => S b o ∨ (w.heap.size ≤ b ∧ b < w'.heap.size)
theorem Mem.below {γ : Nat → G} {S : CS} {w w' : World} {ch : List AO} (hm : Mem ⟨w, S, γ, []⟩ (fun x => ch[x]?) (fun x => ch.length ≤ x) γ S w) (hb : Below w.heap.size w w') :
    Mem ⟨w, S, γ, []⟩ (fun x => ((ch.map some)[x]?).join) (fun x => (ch.map some).length ≤ x) γ (newS S w w') w' := by
  have hj : ∀ x, ((ch.map some)[x]?).join = ch[x]? := fun x => by
    rw [List.getElem?_map]
    cases ch[x]? <;> rfl
  refine ⟨hb.os, hb.tape, hb.output, hb.size, fun b h _ => hb.block b h, fun b o h => ⟨.inl h, hb.cell (p := ⟨b, o, none⟩) (hm.inb b o h)⟩, fun b o h => h.elim .inl (fun h => .inr (.inl h.1)), fun b o h => h.elim (fun h => Nat.lt_of_lt_of_le (hm.inb b o h) hb.size) (fun h => h.2), GOn.refl _,
    fun x hx => hm.un x (by rw [List.length_map] at hx; exact hx), fun x hx => hm.off x (by rw [← hj]; exact hx), fun x o hx => ?_, hm.dist, fun x b h => ⟨Nat.lt_of_lt_of_le (hm.live x b h).1 hb.size, (hm.live x b h).2⟩⟩
  refine Obj'.on (hm.obj x o (by rw [← hj]; exact hx)) rfl (GOn.refl _) (fun _ _ h => .inl h) (fun b o h => hb.cell (p := ⟨b, o, none⟩) (hm.inb b o h)) (fun b hbk => ⟨hb.block b (hm.live x b hbk).1, fun o h => h.elim (fun h => h) (fun h => ?_)⟩)
  have := (hm.live x b hbk).1
  exact absurd h.1 (Nat.not_le.2 this)
theorem spec_of_below {P : Program} {f : FuncId} {args : List AV} {ch : List AO} {res : AV}
    (h : ∀ (γ : Nat → G) (S : CS) (w : World) (vs : List Value), Mem ⟨w, S, γ, []⟩ (fun x => ch[x]?) (fun x => ch.length ≤ x) γ S w → RepVs γ S w vs args →
      Calls P f vs.toArray w fun e w' => ∃ v, e = .returned v ∧ Below w.heap.size w w' ∧ RepV γ (newS S w w') w' v res) : Spec P f args ch res (ch.map some) := fun γ S w vs hm hv => by
  refine (h γ S w vs hm hv).mono ?_
  rintro e w' ⟨v, h1, h2, h3⟩
  exact ⟨v, γ, newS S w w', h1, hm.below h2, h3⟩
end Go.Proofs.Ytcjagcfjpfjanaa.am
end
