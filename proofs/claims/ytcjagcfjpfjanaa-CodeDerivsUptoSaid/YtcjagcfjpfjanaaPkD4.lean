import Derived.Test.YtcjagcfjpfjanaaPkD3
import Derived.Test.YtcjagcfjpfjanaaPkD0
import Derived.Test.YtcjagcfjpfjanaaProg
import Derived.WalkKit
import Derived.ProofKit
import Derived.Lib.Hide
import Derived.IntWalk
set_option maxRecDepth 100000
set_option maxHeartbeats 4000000
section
namespace Go.Proofs.Ytcjagcfjpfjanaa.vt
open Go.Proofs.Ytcjagcfjpfjanaa.am
set_option linter.unusedVariables false
inductive Tr (α : Type) where
  | mk (x : α) (l : List (Tr α))
namespace Tr
variable {α : Type}
def lab : Tr α → α
  | .mk x _ => x
def kids : Tr α → List (Tr α)
  | .mk _ l => l
theorem ind {P : Tr α → Prop} (h : ∀ x l, (∀ y ∈ l, P y) → P (.mk x l)) (t : Tr α) : P t :=
  Tr.rec (motive_1 := P) (motive_2 := fun l => ∀ y ∈ l, P y) h (fun y hy => by simp at hy) (fun x l hx hl y hy => by
    rcases List.mem_cons.1 hy with rfl | hy
    · exact hx
    · exact hl y hy) t
noncomputable def fold {β : Type} (g : α → List (Tr α) → List β → β) (t : Tr α) : β :=
  Tr.rec (motive_1 := fun _ => β) (motive_2 := fun _ => List β) (fun x l ih => g x l ih) [] (fun _ _ a b => a :: b) t
theorem fold_mk {β : Type} (g : α → List (Tr α) → List β → β) (x : α) (l : List (Tr α)) : fold g (.mk x l) = g x l (l.map (fold g)) := by
  show g x l _ = _
  congr 1
  induction l with
  | nil => rfl
  | cons y l ih => show fold g y :: _ = _; rw [ih]; rfl
noncomputable def size (t : Tr α) : Nat := fold (fun _ _ b => 1 + b.sum) t
theorem size_mk (x : α) (l : List (Tr α)) : size (.mk x l) = 1 + (l.map size).sum := fold_mk _ x l
theorem size_pos (t : Tr α) : 0 < size t := by cases t; rw [size_mk]; omega
theorem size_at {x : α} {l : List (Tr α)} {i : Nat} {y : Tr α} (h : l[i]? = some y) : size y < size (.mk x l) := by
  rw [size_mk]
  have : size y ≤ (l.map size).sum := by
    induction l generalizing i with
    | nil => simp at h
    | cons z l ih =>
      cases i with
      | zero => simp at h; subst h; simp
      | succ i => have := ih (by simpa using h); simp; omega
  omega
theorem len_size {x : α} {l : List (Tr α)} : l.length < size (.mk x l) := by
  rw [size_mk]
  have : l.length ≤ (l.map size).sum := by
    induction l with
    | nil => simp
    | cons z l ih => have := size_pos z; simp; omega
  omega
noncomputable def all (p : α → Prop) (t : Tr α) : Prop := fold (fun x _ b => p x ∧ ∀ q ∈ b, q) t
theorem all_mk (p : α → Prop) (x : α) (l : List (Tr α)) : all p (.mk x l) ↔ p x ∧ ∀ y ∈ l, all p y := by
  unfold all
  rw [fold_mk]
  constructor
  · rintro ⟨h1, h2⟩; exact ⟨h1, fun y hy => h2 _ (List.mem_map_of_mem hy)⟩
  · rintro ⟨h1, h2⟩; refine ⟨h1, fun q hq => ?_⟩
    obtain ⟨y, hy, rfl⟩ := List.mem_map.1 hq
    exact h2 y hy
end Tr
structure Lab where
  k : Int
  n : Int
  s : ByteArray
  f : Int
  t : Int
def Lab.ok (x : Lab) : Prop := (-9223372036854775808 ≤ x.k ∧ x.k ≤ 9223372036854775807) ∧ (-9223372036854775808 ≤ x.n ∧ x.n ≤ 9223372036854775807) ∧ (-9223372036854775808 ≤ x.f ∧ x.f ≤ 9223372036854775807) ∧ (-9223372036854775808 ≤ x.t ∧ x.t ≤ 9223372036854775807)
abbrev VT := Tr Lab
noncomputable abbrev in64 (t : VT) : Prop := Tr.all Lab.ok t
abbrev I (z : Int) : PV := .lit (.int .i64 z)
abbrev Sx (s : ByteArray) : PV := .lit (.string s)
abbrev Bo (b : Bool) : PV := .lit (.bool b)
abbrev vI (z : Int) : AV := .v (.c (.pv (I z)))
abbrev vB (b : Bool) : AV := .v (.c (.pv (Bo b)))
noncomputable def tc (t : VT) : List PV := Tr.fold (fun x _ b => [I x.k, I x.n, Sx x.s, .sl 6 b, I x.f, I x.t]) t
theorem tc_mk (x : Lab) (l : List VT) : tc (.mk x l) = [I x.k, I x.n, Sx x.s, .sl 6 (l.map tc), I x.f, I x.t] := Tr.fold_mk _ x l
theorem tc_len (t : VT) : (tc t).length = 6 := by cases t; rw [tc_mk]; rfl
noncomputable def ta (t : VT) : List AC := (tc t).map .pv
theorem ta_mk (x : Lab) (l : List VT) : ta (.mk x l) = [.pv (I x.k), .pv (I x.n), .pv (Sx x.s), .pv (.sl 6 (l.map tc)), .pv (I x.f), .pv (I x.t)] := by unfold ta; rw [tc_mk]; rfl
noncomputable abbrev vT (t : VT) : AV := .v (.agg (ta t))
noncomputable abbrev vLs (l : List VT) : AV := .v (.c (.pv (.sl 6 (l.map tc))))
theorem ta_len (t : VT) : (ta t).length = 6 := by unfold ta; rw [List.length_map]; exact tc_len t
theorem mapM_pure (l : List PV) : (l.map AC.pv).mapM pureC = some l := by
  induction l with
  | nil => rfl
  | cons p l ih => rw [List.map_cons, List.mapM_cons, ih]; rfl
theorem ta_pure (t : VT) : (ta t).mapM pureC = some (tc t) := mapM_pure _
theorem fit_pure {n : Nat} {ρ : Nat → Nat} (l : List PV) : fitCs n ρ (l.map AC.pv) (l.map AC.pv) := by
  induction l with
  | nil => trivial
  | cons p l ih => exact ⟨fitP_refl p, ih⟩
theorem fit_ta {n : Nat} {ρ : Nat → Nat} (t : VT) : fitCs n ρ (ta t) (ta t) := fit_pure _
theorem ta_take (t : VT) : (ta t).take 6 = ta t := List.take_of_length_le (by rw [ta_len]; exact Nat.le_refl _)
attribute [simp] ta_mk tc_mk ta_len tc_len ta_pure fit_ta fit_pure ta_take
theorem ren_pure (ρ : Nat → Nat) (l : List PV) : (l.map AC.pv).map (AC.ren ρ) = l.map AC.pv := by
  rw [List.map_map]; rfl
theorem vT_ren (t : VT) (ρ : Nat → Nat) : (vT t).ren ρ = vT t := by
  show AV.v (.agg (((tc t).map AC.pv).map (AC.ren ρ))) = _
  rw [ren_pure]; rfl
end Go.Proofs.Ytcjagcfjpfjanaa.vt
end
section
namespace Go.Proofs.Ytcjagcfjpfjanaa.vt
open Go.Proofs.Ytcjagcfjpfjanaa.am
set_option linter.unusedVariables false
noncomputable def eqv (p : Lab → Lab → Bool) (t : VT) : VT → Bool := Tr.fold (fun x l bs u => p x u.lab && decide (l.length = u.kids.length) && (bs.zip u.kids).all (fun q => q.1 q.2)) t
def zipA (f : VT → VT → Bool) (l m : List VT) (k : Nat) : Bool := ((l.zip m).take k).all (fun q => f q.1 q.2)
theorem zipA_zero (f : VT → VT → Bool) (l m : List VT) : zipA f l m 0 = true := by simp [zipA]
theorem zipA_succ {f : VT → VT → Bool} {l m : List VT} {k : Nat} {a b : VT} (ha : l[k]? = some a) (hb : m[k]? = some b) : zipA f l m (k + 1) = (zipA f l m k && f a b) := by
  unfold zipA
  rw [List.take_add_one, show (l.zip m)[k]? = some (a, b) from List.getElem?_zip_eq_some.2 ⟨ha, hb⟩]
  simp [List.all_append]
theorem zipA_mono {f : VT → VT → Bool} {l m : List VT} {k : Nat} (j : Nat) (h : zipA f l m k = false) : zipA f l m (k + j) = false := by
  unfold zipA at h ⊢
  rw [List.all_eq_false] at h ⊢
  obtain ⟨q, h1, h2⟩ := h
  refine ⟨q, ?_, h2⟩
  have : (l.zip m).take k <+: (l.zip m).take (k + j) := List.take_prefix_take_left (by omega)
  exact this.subset h1
theorem zip_map_all {α β : Type} (F : α → β → Bool) : ∀ (l : List α) (m : List β), ((l.map F).zip m).all (fun q => q.1 q.2) = (l.zip m).all (fun q => F q.1 q.2)
  | [], m => rfl
  | a :: l, [] => rfl
  | a :: l, b :: m => by simp only [List.map_cons, List.zip_cons_cons, List.all_cons, zip_map_all F l m]
theorem eqv_mk (p : Lab → Lab → Bool) (x y : Lab) (l m : List VT) : eqv p (.mk x l) (.mk y m) = (p x y && decide (l.length = m.length) && zipA (eqv p) l m l.length) := by
  have e : zipA (eqv p) l m l.length = (l.zip m).all (fun q => eqv p q.1 q.2) := by
    unfold zipA
    rw [List.take_of_length_le (l := l.zip m) (by rw [List.length_zip]; exact Nat.min_le_left _ _)]
  rw [e]
  conv => lhs; unfold eqv
  rw [Tr.fold_mk, zip_map_all]
  rfl
def pS (x y : Lab) : Bool := decide (x.k = y.k) && decide (x.n = y.n) && decide (x.s = y.s)
def pP (x y : Lab) : Bool := decide (x.k = y.k) && decide (x.n = y.n) && decide (x.s = y.s) && decide (x.f = y.f) && decide (x.t = y.t)
noncomputable abbrev same (t u : VT) : Bool := eqv pS t u
noncomputable abbrev plac (t u : VT) : Bool := eqv pP t u
theorem zipA_refl {f : VT → VT → Bool} {l : List VT} (h : ∀ y ∈ l, f y y = true) : ∀ k, zipA f l l k = true := fun k => by
  unfold zipA
  rw [List.all_eq_true]
  intro q hq
  have hq := List.mem_of_mem_take hq
  obtain ⟨i, hi⟩ := List.mem_iff_getElem?.1 hq
  obtain ⟨h1, h2⟩ := List.getElem?_zip_eq_some.1 hi
  rw [h1] at h2
  have : q.1 = q.2 := by simpa using h2
  rw [← this]
  exact h _ (List.mem_of_getElem? h1)
theorem eqv_refl {p : Lab → Lab → Bool} (hp : ∀ x, p x x = true) (t : VT) : eqv p t t = true := by
  induction t using Tr.ind with
  | h x l ih => rw [eqv_mk, hp, zipA_refl ih]; simp
theorem same_refl (t : VT) : same t t = true := eqv_refl (fun x => by simp [pS]) t
noncomputable def cntT (t : VT) : Int → Int → Int := Tr.fold (fun x l bs left lv => if lv ≤ 0 then -1 else bs.foldl (fun n f => if 0 ≤ n then f n (lv - 1) else n) (left - 1)) t
noncomputable def cntK (l : List VT) (lv n : Int) (k : Nat) : Int := (l.take k).foldl (fun n y => if 0 ≤ n then cntT y n (lv - 1) else n) n
theorem cnt_mk (x : Lab) (l : List VT) (left lv : Int) : cntT (.mk x l) left lv = if lv ≤ 0 then -1 else cntK l lv (left - 1) l.length := by
  unfold cntT
  rw [Tr.fold_mk]
  split
  · rfl
  · rw [List.foldl_map]; unfold cntK; rw [List.take_length]; rfl
theorem cntK_zero (l : List VT) (lv n : Int) : cntK l lv n 0 = n := by simp [cntK]
theorem cntK_succ {l : List VT} {lv n : Int} {k : Nat} {y : VT} (h : l[k]? = some y) : cntK l lv n (k + 1) = if 0 ≤ cntK l lv n k then cntT y (cntK l lv n k) (lv - 1) else cntK l lv n k := by
  unfold cntK
  rw [List.take_add_one, h, Option.toList_some, List.foldl_append]
  rfl
theorem cntK_neg {l : List VT} {lv n : Int} {k : Nat} (h : cntK l lv n k < 0) : ∀ j, k ≤ j → j ≤ l.length → cntK l lv n j = cntK l lv n k := fun j hj => by
  induction j with
  | zero => intro _; rw [show k = 0 by omega]
  | succ j ih =>
    intro hl
    by_cases hjk : k = j + 1
    · rw [hjk]
    · have hy : l[j]? = some (l[j]'(by omega)) := List.getElem?_eq_getElem _
      rw [cntK_succ hy, ih (by omega) (by omega), if_neg (by omega)]
theorem cnt_le (t : VT) : ∀ left lv : Int, -1 ≤ left → cntT t left lv ≤ left ∧ -2 ≤ cntT t left lv ∧ (0 ≤ cntT t left lv → cntT t left lv + (t.size : Int) = left) := by
  induction t using Tr.ind with
  | h x l ih =>
    intro left lv h0
    rw [cnt_mk]
    split
    · exact ⟨by omega, by omega, fun h => by omega⟩
    · have key : ∀ k, k ≤ l.length → cntK l lv (left - 1) k ≤ left - 1 ∧ -2 ≤ cntK l lv (left - 1) k ∧ (0 ≤ cntK l lv (left - 1) k → cntK l lv (left - 1) k + (((l.take k).map Tr.size).sum : Nat) = left - 1) := fun k => by
        induction k with
        | zero => intro _; rw [cntK_zero]; simp; omega
        | succ k ihk =>
          intro hk
          obtain ⟨a1, a2, a3⟩ := ihk (by omega)
          have hy : l[k]? = some (l[k]'(by omega)) := List.getElem?_eq_getElem _
          rw [cntK_succ hy]
          split
          · rename_i hge
            obtain ⟨b1, b2, b3⟩ := ih _ (List.mem_of_getElem? hy) (cntK l lv (left - 1) k) (lv - 1) (by omega)
            refine ⟨by omega, b2, fun h => ?_⟩
            have c1 := b3 h; have c2 := a3 hge
            rw [List.take_add_one, hy]
            simp only [Option.toList_some, List.map_append, List.map_cons, List.map_nil, List.sum_append, List.sum_cons, List.sum_nil]
            omega
          · exact ⟨a1, a2, fun h => by omega⟩
      obtain ⟨b1, b2, b3⟩ := key l.length (Nat.le_refl _)
      refine ⟨by omega, b2, fun h => ?_⟩
      have := b3 h
      rw [List.take_length] at this
      rw [Tr.size_mk]
      omega
noncomputable def nmd (t : VT) : Bool := Tr.fold (fun x l bs => decide (40 < x.s.size) || bs.any id) t
def anyK (f : VT → Bool) (l : List VT) (k : Nat) : Bool := (l.take k).any f
theorem anyK_zero (f : VT → Bool) (l : List VT) : anyK f l 0 = false := by simp [anyK]
theorem anyK_succ {f : VT → Bool} {l : List VT} {k : Nat} {y : VT} (h : l[k]? = some y) : anyK f l (k + 1) = (anyK f l k || f y) := by
  unfold anyK
  rw [List.take_add_one, h]; simp
theorem anyK_all (f : VT → Bool) (l : List VT) : anyK f l l.length = l.any f := by unfold anyK; rw [List.take_length]
theorem any_of {f : VT → Bool} {l : List VT} {k : Nat} {y : VT} (h : l[k]? = some y) (hf : f y = true) : l.any f = true := List.any_eq_true.2 ⟨y, List.mem_of_getElem? h, hf⟩
theorem nmd_mk (x : Lab) (l : List VT) : nmd (.mk x l) = (decide (40 < x.s.size) || l.any nmd) := by
  unfold nmd
  rw [Tr.fold_mk, List.any_map]
  rfl
noncomputable def large (t : VT) : Bool := decide (cntT t 400 70 < 0) || nmd t
theorem large_size {t : VT} (h : large t = false) : t.size ≤ 400 := by
  unfold large at h
  rw [Bool.or_eq_false_iff] at h
  have h1 : ¬ cntT t 400 70 < 0 := by simpa using h.1
  have := (cnt_le t 400 70 (by omega)).2.2 (by omega)
  omega
end Go.Proofs.Ytcjagcfjpfjanaa.vt
end
section
namespace Go.Proofs.Ytcjagcfjpfjanaa.vs
open Go.ChangeShapes Go.WideShapes Go.ChangeAt Go.RowKit
def encF : Nat → Int → List Int
  | 0, v => [v]
  | k + 1, v => if v < 128 then [v] else (v % 128 + 128) :: encF k (v / 128)
theorem encF_succ (k : Nat) (v : Int) : encF (k + 1) v = if v < 128 then [v] else (v % 128 + 128) :: encF k (v / 128) := rfl
def enc (v : Int) : List Int := encF 9 v
def grp (i : Nat) (v : Int) : List Int → Int × Nat × Int
  | [] => (0, 0, 1)
  | c :: r =>
    if (i = 9 ∧ c ≠ 1) ∨ (0 < i ∧ c = 0) then (0, 0, 2)
    else if c < 128 then (v + c % 128 * 128 ^ i, i + 1, 0)
    else grp (i + 1) (v + c % 128 * 128 ^ i) r
theorem encF_bytes : ∀ (k : Nat) (v : Int), 0 ≤ v → v < 2 * 128 ^ k → bs.AllB (encF k v)
  | 0, v, h0, h1 => by intro n hn; simp [encF] at hn; subst hn; simp at h1; omega
  | k + 1, v, h0, h1 => by
    intro n hn
    unfold encF at hn
    split at hn
    · simp at hn; subst hn; omega
    · rcases List.mem_cons.1 hn with rfl | hn
      · omega
      · refine encF_bytes k (v / 128) (by omega) ?_ n hn
        rw [Int.pow_succ] at h1
        omega
theorem encF_len : ∀ (k : Nat) (v : Int), 1 ≤ (encF k v).length ∧ (encF k v).length ≤ k + 1
  | 0, v => by simp [encF]
  | k + 1, v => by
    unfold encF
    have := encF_len k (v / 128)
    split
    · simp
    · simp; omega
theorem enc_bytes (v : Int) (h0 : 0 ≤ v) (h1 : v ≤ 18446744073709551615) : bs.AllB (enc v) := encF_bytes 9 v h0 (by omega)
theorem pow_pos' (i : Nat) : (0 : Int) < 128 ^ i := Int.pow_pos (by omega)
theorem grp_encF : ∀ (k i : Nat) (v V : Int) (r : List Int), i + k = 9 → 0 ≤ V → V < 2 * 128 ^ k → (0 < i → V ≠ 0) → grp i v (encF k V ++ r) = (v + V * 128 ^ i, i + (encF k V).length, 0)
  | 0, i, v, V, r, hi, h0, h1, h2 => by
    simp at h1
    have : V = 1 := by have := h2 (by omega); omega
    subst this
    have hi9 : i = 9 := by omega
    subst hi9
    simp [encF, grp]
  | k + 1, i, v, V, r, hi, h0, h1, h2 => by
    unfold encF
    split
    · rename_i hV
      simp only [List.cons_append, List.nil_append, grp]
      rw [if_neg (by rintro (⟨h, _⟩ | ⟨h, h'⟩); · omega
                     · exact h2 h h'), if_pos hV, Int.emod_eq_of_lt h0 hV]
      simp
    · rename_i hV
      simp only [List.cons_append, grp]
      rw [if_neg (by omega), if_neg (by omega)]
      have ih := grp_encF k (i + 1) (v + (V % 128 + 128) % 128 * 128 ^ i) (V / 128) r (by omega) (by omega) (by rw [Int.pow_succ] at h1; omega) (by omega)
      rw [ih]
      refine Prod.mk.injEq _ _ _ _ ▸ ⟨?_, ?_⟩
      · rw [show (V % 128 + 128) % 128 = V % 128 by omega, Int.pow_succ]
        have e : V = V % 128 + V / 128 * 128 := by omega
        have e2 : V * 128 ^ i = V % 128 * 128 ^ i + V / 128 * (128 ^ i * 128) := by
          conv => lhs; rw [e]
          rw [Int.add_mul, Int.mul_assoc, Int.mul_comm 128 (128 ^ i)]
        rw [e2]; omega
      · simp; omega
theorem grp_enc (V : Int) (r : List Int) (h0 : 0 ≤ V) (h1 : V ≤ 18446744073709551615) : grp 0 0 (enc V ++ r) = (V, (enc V).length, 0) := by
  have := grp_encF 9 0 0 V r (by omega) h0 (by omega) (by omega)
  simpa [enc] using this
end Go.Proofs.Ytcjagcfjpfjanaa.vs
end
section
namespace Go.Proofs.Ytcjagcfjpfjanaa.vs
open Go.ChangeShapes Go.WideShapes Go.ChangeAt Go.RowKit
open bs
set_option linter.unusedVariables false
def getAt (l : List Int) (at' : Int) : Int × Int × Int :=
  if at' < 0 ∨ (l.length : Int) < at' then (0, 0, 13)
  else ((grp 0 0 (l.drop at'.toNat)).1, (if (grp 0 0 (l.drop at'.toNat)).2.2 = 0 then at' + (grp 0 0 (l.drop at'.toNat)).2.1 else 0), (grp 0 0 (l.drop at'.toNat)).2.2)
theorem ret_three {N T E N' T' E' : Int} (h : (N, T, E) = (N', T', E')) : Ending.returned (.tuple #[.int .u64 N, .int .i64 T, .int .i64 E]) = .returned (.tuple #[.int .u64 N', .int .i64 T', .int .i64 E']) := by
  simp only [Prod.mk.injEq] at h
  obtain ⟨rfl, rfl, rfl⟩ := h
  rfl
theorem getAt_of (l : List Int) (q : Nat) (hq : q ≤ l.length) {N : Int} {t : Nat} {E : Int} (h : grp 0 0 (l.drop q) = (N, t, E)) : getAt l q = (N, (if E = 0 then (q : Int) + t else 0), E) := by
  unfold getAt
  rw [if_neg (by omega), show ((q : Int).toNat) = q from rfl, h]
theorem drop_cons (l : List Int) (k : Nat) (h : k < l.length) : l.drop k = l.getD k 0 :: l.drop (k + 1) := by
  rw [List.drop_eq_getElem_cons h, List.getD_eq_getElem?_getD, List.getElem?_eq_getElem h]; rfl
def GRel (l : List Int) (q : Nat) (v i : Value) : Prop := ∃ (k : Nat) (V : Int), k ≤ 9 ∧ v = .int .u64 V ∧ i = .int .i64 k ∧ 0 ≤ V ∧ V < 128 ^ k ∧ grp k V (l.drop (q + k)) = grp 0 0 (l.drop q)
theorem pow_le (k : Nat) (hk : k ≤ 9) : (128 : Int) ^ k ≤ 9223372036854775808 := by
  have : k = 0 ∨ k = 1 ∨ k = 2 ∨ k = 3 ∨ k = 4 ∨ k = 5 ∨ k = 6 ∨ k = 7 ∨ k = 8 ∨ k = 9 := by omega
  rcases this with rfl | rfl | rfl | rfl | rfl | rfl | rfl | rfl | rfl | rfl <;> decide
theorem u64_wrap (x : Int) : IntKind.u64.wrap x = x % 18446744073709551616 := by
  simp only [IntKind.wrap, IntKind.signed, IntKind.bits, Bool.false_and]
  exact if_neg (by simp)
theorem group_le (k : Nat) (V m : Int) (hk : k ≤ 9) (V0 : 0 ≤ V) (V1 : V < 128 ^ k) (m0 : 0 ≤ m) (m1 : m ≤ 127) (h9 : 9 ≤ k → m ≤ 1) :
    0 ≤ m * 128 ^ k ∧ V + m * 128 ^ k < 128 ^ (k + 1) ∧ m * 128 ^ k ≤ 9223372036854775808 ∧ V + m * 128 ^ k < 18446744073709551616 := by
  have hp := pow_pos' k
  have hle := pow_le k hk
  have a0 : 0 ≤ m * 128 ^ k := Int.mul_nonneg m0 (Int.le_of_lt hp)
  have a1 : m * 128 ^ k ≤ 127 * 128 ^ k := Int.mul_le_mul_of_nonneg_right m1 (Int.le_of_lt hp)
  have a2 : m * 128 ^ k ≤ 9223372036854775808 := by
    by_cases h : 9 ≤ k
    · have := Int.mul_le_mul_of_nonneg_right (h9 h) (Int.le_of_lt hp)
      omega
    · have hq : (128 : Int) ^ (k + 1) ≤ 9223372036854775808 := pow_le (k + 1) (by omega)
      rw [Int.pow_succ] at hq
      omega
  refine ⟨a0, ?_, a2, by omega⟩
  rw [Int.pow_succ]
  omega
theorem two_pow (k : Nat) : (2 : Int) ^ (7 * k) = 128 ^ k := by rw [Int.pow_mul]; rfl
theorem group_val (k : Nat) (V m : Int) (hk : k ≤ 9) (V0 : 0 ≤ V) (V1 : V < 128 ^ k) (m0 : 0 ≤ m) (m1 : m ≤ 127) (h9 : 9 ≤ k → m ≤ 1) :
    IntKind.u64.wrap (V + IntKind.u64.wrap (m * 2 ^ (7 * k))) = V + m * 128 ^ k := by
  obtain ⟨a0, a1, a2, a3⟩ := group_le k V m hk V0 V1 m0 m1 h9
  rw [u64_wrap, u64_wrap, two_pow]
  generalize m * 128 ^ k = X at *
  omega
set_option maxRecDepth 100000 in
set_option maxHeartbeats 1000000 in
theorem get_in (a : Option Addr) (n c : Nat) (l : List Int) (q : Nat) (w : World) (h : Bytes w a n c l) (hn : n ≤ 140737488355328) (hq : q ≤ n) (h0 : 0 < n) :
    Calls Try.prog 70 #[.slice a n c, .int .i64 q] w fun e w' => e = .returned (.tuple #[.int .u64 (getAt l q).1, .int .i64 (getAt l q).2.1, .int .i64 (getAt l q).2.2]) ∧ w' = w := by
  obtain ⟨b, off, rfl, hc⟩ := h.at'.resolve_left (by omega)
  have hlen := Lib.hid h.len
  have HC := Lib.hid hc; clear hc
  have HA := Lib.hid h.all
  have hcap := h.cap
  have hmost := h.most
  clear h
  obtain ⟨G, hG⟩ : ∃ G, grp 0 0 (l.drop q) = G := ⟨_, rfl⟩
  obtain ⟨N, t, E⟩ := G
  have HR := Lib.hid (getAt_of l q (by rw [hlen.out]; exact hq) hG)
  have HG := Lib.hid hG; clear hG
  have q0 : decide ((q : Int) < 0) = false := by simp
  have q1 : decide (n < q) = false := by simp; omega
  go_enter Try.func70, Try.ntmps70
  go_wp2
  go_loop [7, 18] (fun v i => GRel l q v i) (fun _ i => (10 - intOf i).toNat)
  case atStart => exact ⟨0, 0, by omega, rfl, rfl, by omega, by simp, rfl⟩
  case round =>
    obtain ⟨k, V, hk, rfl, rfl, V0, V1, hg⟩ := hrel
    have hp := pow_le k hk
    have V2 : V ≤ 9223372036854775807 := by omega
    have H1 := Lib.hid V1; clear V1 hp
    rw [HG.out] at hg
    have Hg := Lib.hid hg; clear hg
    by_cases hend : n ≤ q + k
    · have hN : (N, (if E = 0 then (q : Int) + t else 0), E) = ((0 : Int), (0 : Int), (1 : Int)) := by
        have := Hg.out
        rw [List.drop_of_length_le (by rw [hlen.out]; exact hend)] at this
        simp only [grp, Prod.mk.injEq] at this
        obtain ⟨rfl, rfl, rfl⟩ := this
        rfl
      have HN := Lib.hid hN; clear hN
      go_wp2
      go_ret3
      exact ⟨ret_three (by rw [HR.out, HN.out]), rfl⟩
    · have c1 := HC.out (q + k) (by omega)
      have cb := HA.out.getD (q + k)
      have hd := Hg.out
      rw [drop_cons l (q + k) (by rw [hlen.out]; omega)] at hd
      obtain ⟨p, hp⟩ : ∃ p, l.getD (q + k) 0 = p := ⟨_, rfl⟩
      rw [hp] at c1 cb hd
      obtain ⟨p0, p1⟩ := cb
      have HD := Lib.hid hd; clear hd hp
      by_cases hbad : (k = 9 ∧ p ≠ 1) ∨ (0 < k ∧ p = 0)
      · have hN : (N, (if E = 0 then (q : Int) + t else 0), E) = ((0 : Int), (0 : Int), (2 : Int)) := by
          have := HD.out
          unfold grp at this
          rw [if_pos hbad] at this
          simp only [Prod.mk.injEq] at this
          obtain ⟨rfl, rfl, rfl⟩ := this
          rfl
        have HN := Lib.hid hN; clear hN
        by_cases hk9 : 9 ≤ k
        · have e9 : ((k : Int) == 9) = true := by rw [beq_iff_eq]; omega
          by_cases hp1 : p = 1
          · omega
          · have e1 : (p != 1) = true := by rw [bne_iff_ne]; exact hp1
            clear hbad hp1
            go_wp2
            go_ret3
            exact ⟨ret_three (by rw [HR.out, HN.out]), rfl⟩
        · have e9 : ((k : Int) == 9) = false := by rw [beq_eq_false_iff_ne]; omega
          have hk0 : 0 < k := by omega
          have e0 : (p == 0) = true := by rw [beq_iff_eq]; omega
          clear hbad
          go_wp2
          go_ret3
          exact ⟨ret_three (by rw [HR.out, HN.out]), rfl⟩
      · have hd := HD.out
        unfold grp at hd
        rw [if_neg hbad] at hd
        have m0 : 0 ≤ p % 128 := by omega
        have m1 : p % 128 ≤ 127 := by omega
        have pp := pow_pos' k
        have HB := Lib.hid hbad; clear hbad
        have HD2 := Lib.hid hd; clear hd pp
        have s0 : (0 : Int) ≤ 7 * k := by omega
        have s1 : (7 * k : Int) ≤ 63 := by omega
        have hm9 : 9 ≤ k → p % 128 ≤ 1 := fun h => by
          have := Classical.byContradiction fun x => HB.out (.inl ⟨by omega, x⟩)
          omega
        have HM := Lib.hid hm9; clear hm9
        by_cases hlt : p < 128
        · have hN : (N, (if E = 0 then (q : Int) + t else 0), E) = (V + p % 128 * 128 ^ k, (q : Int) + k + 1, (0 : Int)) := by
            have := HD2.out
            rw [if_pos hlt] at this
            simp only [Prod.mk.injEq] at this
            obtain ⟨rfl, rfl, rfl⟩ := this
            simp; omega
          have HN := Lib.hid hN; clear hN
          by_cases hk9 : 9 ≤ k
          · have e9 : ((k : Int) == 9) = true := by rw [beq_iff_eq]; omega
            have hp1 : p = 1 := Classical.byContradiction fun x => HB.out (.inl ⟨by omega, x⟩)
            have e1 : (p != 1) = false := by rw [hp1]; rfl
            have e0 : (p == 0) = false := by rw [hp1]; rfl
            clear hp1
            go_wp2
            go_ret3
            exact ⟨ret_three (by rw [HR.out, HN.out, group_val k V _ hk V0 H1.out m0 m1 HM.out]), rfl⟩
          · have e9 : ((k : Int) == 9) = false := by rw [beq_eq_false_iff_ne]; omega
            by_cases hk0 : 0 < k
            · have e0 : (p == 0) = false := by rw [beq_eq_false_iff_ne]; exact fun x => HB.out (.inr ⟨hk0, x⟩)
              go_wp2
              go_ret3
              exact ⟨ret_three (by rw [HR.out, HN.out, group_val k V _ hk V0 H1.out m0 m1 HM.out]), rfl⟩
            · go_wp2
              go_ret3
              exact ⟨ret_three (by rw [HR.out, HN.out, group_val k V _ hk V0 H1.out m0 m1 HM.out]), rfl⟩
        · have hk9 : ¬ 9 ≤ k := fun h => by
            have := Classical.byContradiction fun x => HB.out (.inl ⟨by omega, x⟩)
            omega
          have e9 : ((k : Int) == 9) = false := by rw [beq_eq_false_iff_ne]; omega
          have e0 : (p == 0) = false := by rw [beq_eq_false_iff_ne]; omega
          go_wp2
          all_goals
            go_round
            case rel =>
              obtain ⟨a0, a1, a2, a3⟩ := group_le k V _ hk V0 H1.out m0 m1 HM.out
              refine ⟨k + 1, V + p % 128 * 128 ^ k, by omega, ?_, by go_num, by omega, a1, ?_⟩
              · rw [group_val k V _ hk V0 H1.out m0 m1 HM.out]
              · have := HD2.out
                rw [if_neg hlt] at this
                rw [HG.out, ← this]
                rfl
            case measure => simp [intOf]; omega
end Go.Proofs.Ytcjagcfjpfjanaa.vs
end
section
namespace Go.Proofs.Ytcjagcfjpfjanaa.zigs
open Go.ChangeShapes Go.WideShapes Go.ChangeAt Go.RowKit
def zig (n : Int) : Int := if n < 0 then 2 * (-(n + 1)) + 1 else 2 * n
def zag (v : Int) : Int := if v % 2 = 0 then v / 2 else -(v / 2) - 1
theorem ret_int {k : IntKind} {a b : Int} (h : a = b) : Ending.returned (.int k a) = .returned (.int k b) := by rw [h]
set_option maxHeartbeats 400000 in
theorem zig_any (n : Int) (w : World) (h0 : -9223372036854775808 ≤ n) (h1 : n ≤ 9223372036854775807) :
    Calls Try.prog 47 #[.int .i64 n] w fun e w' => e = .returned (.int .u64 (zig n)) ∧ w = w' := by
  by_cases h : n < 0
  · have hz : zig n = 2 * (-(n + 1)) + 1 := by unfold zig; rw [if_pos h]
    have Hz := Lib.hid hz; clear hz
    go_enter Try.func47, Try.ntmps47
    go_wp2
    go_ret
    exact ⟨ret_int Hz.out.symm, rfl⟩
  · have hz : zig n = 2 * n := by unfold zig; rw [if_neg h]
    have Hz := Lib.hid hz; clear hz
    go_enter Try.func47, Try.ntmps47
    go_wp2
    go_ret
    exact ⟨ret_int Hz.out.symm, rfl⟩
set_option maxHeartbeats 400000 in
theorem rzig_any (n : Int) (w : World) (h0 : -9223372036854775808 ≤ n) (h1 : n ≤ 9223372036854775807) :
    Calls Try.prog 26 #[.int .i64 n] w fun e w' => e = .returned (.int .u64 (zig n)) ∧ w = w' := by
  by_cases h : n < 0
  · have hz : zig n = 2 * (-(n + 1)) + 1 := by unfold zig; rw [if_pos h]
    have Hz := Lib.hid hz; clear hz
    go_enter Try.func26, Try.ntmps26
    go_wp2
    go_ret
    exact ⟨ret_int Hz.out.symm, rfl⟩
  · have hz : zig n = 2 * n := by unfold zig; rw [if_neg h]
    have Hz := Lib.hid hz; clear hz
    go_enter Try.func26, Try.ntmps26
    go_wp2
    go_ret
    exact ⟨ret_int Hz.out.symm, rfl⟩
set_option maxHeartbeats 400000 in
theorem zag_any (v : Int) (w : World) (h0 : 0 ≤ v) (h1 : v ≤ 18446744073709551615) :
    Calls Try.prog 52 #[.int .u64 v] w fun e w' => e = .returned (.int .i64 (zag v)) ∧ w = w' := by
  by_cases h : v % 2 = 0
  · have hz : zag v = v / 2 := by unfold zag; rw [if_pos h]
    have Hz := Lib.hid hz; clear hz
    have hb : (v % 2 == 1) = false := by simp; omega
    clear h
    go_enter Try.func52, Try.ntmps52
    go_wp2
    go_ret
    exact ⟨ret_int Hz.out.symm, rfl⟩
  · have hz : zag v = -(v / 2) - 1 := by unfold zag; rw [if_neg h]
    have Hz := Lib.hid hz; clear hz
    have hb : (v % 2 == 1) = true := by simp; omega
    clear h
    go_enter Try.func52, Try.ntmps52
    go_wp2
    go_ret
    exact ⟨ret_int Hz.out.symm, rfl⟩
theorem zig_bd (n : Int) (h0 : -9223372036854775808 ≤ n) (h1 : n ≤ 9223372036854775807) : 0 ≤ zig n ∧ zig n ≤ 18446744073709551615 := by
  unfold zig; split <;> omega
theorem zag_zig (n : Int) : zag (zig n) = n := by
  unfold zig zag; split <;> split <;> omega
end Go.Proofs.Ytcjagcfjpfjanaa.zigs
end
section
namespace Go.Proofs.Ytcjagcfjpfjanaa.am
open vt
set_option linter.unusedVariables false
set_option linter.unusedSimpArgs false
noncomputable def tE (t : VT) : List Int := Tr.fold (fun x l bs => x.k :: (vs.enc (zigs.zig x.n) ++ (vs.enc (l.length : Nat) ++ bs.flatten))) t
theorem tE_mk (x : Lab) (l : List VT) : tE (.mk x l) = x.k :: (vs.enc (zigs.zig x.n) ++ (vs.enc (l.length : Nat) ++ (l.map tE).flatten)) := Tr.fold_mk _ x l
def frmC (x : Lab) : Prop := x.s = ⟨#[]⟩ ∧ x.f = 0 ∧ x.t = 0
instance (x : Lab) : Decidable (frmC x) := by unfold frmC; infer_instance
def fstE : List Int → Int
  | [] => 0
  | e :: r => if e = 0 then fstE r else e
noncomputable def erT (t : VT) : Int → Int := Tr.fold (fun x l fs lv => if 64 < lv then 7 else if ¬ (1 ≤ x.k ∧ x.k ≤ 36) then 23 else if ¬ frmC x then 2 else fstE (fs.map fun f => f (lv + 1))) t
theorem erT_mk (x : Lab) (l : List VT) (lv : Int) : erT (.mk x l) lv = if 64 < lv then 7 else if ¬ (1 ≤ x.k ∧ x.k ≤ 36) then 23 else if ¬ frmC x then 2 else fstE (l.map fun y => erT y (lv + 1)) := by
  unfold erT
  rw [Tr.fold_mk, List.map_map]
  rfl
theorem fst_snoc (e : Int) : ∀ l : List Int, fstE (l ++ [e]) = if fstE l = 0 then e else fstE l
  | [] => by unfold fstE; simp [fstE]; intro h; exact h.symm
  | d :: l => by
    rw [List.cons_append]
    unfold fstE
    by_cases h : d = 0
    · rw [if_pos h, if_pos h, fst_snoc e l]
    · rw [if_neg h, if_neg h, if_neg h]
theorem fst_zero : ∀ {l : List Int}, fstE l = 0 → ∀ e ∈ l, e = 0
  | [], _, e, he => by cases he
  | d :: l, h, e, he => by
    unfold fstE at h
    by_cases hd : d = 0
    · rw [if_pos hd] at h
      rcases List.mem_cons.1 he with rfl | he
      · exact hd
      · exact fst_zero h e he
    · rw [if_neg hd] at h; exact absurd h hd
theorem er_ok {x : Lab} {l : List VT} {lv : Int} (h : erT (.mk x l) lv = 0) : lv ≤ 64 ∧ (1 ≤ x.k ∧ x.k ≤ 36) ∧ frmC x ∧ ∀ y ∈ l, erT y (lv + 1) = 0 := by
  rw [erT_mk] at h
  by_cases h1 : 64 < lv
  · rw [if_pos h1] at h; exact absurd h (by decide)
  rw [if_neg h1] at h
  by_cases h2 : 1 ≤ x.k ∧ x.k ≤ 36
  · rw [if_neg (fun k => k h2)] at h
    by_cases h3 : frmC x
    · rw [if_neg (fun k => k h3)] at h
      exact ⟨by omega, h2, h3, fun y hy => fst_zero h _ (List.mem_map.2 ⟨y, hy, rfl⟩)⟩
    · rw [if_pos h3] at h; exact absurd h (by decide)
  · rw [if_pos h2] at h; exact absurd h (by decide)
theorem enc_ln (v : Int) : 1 ≤ (vs.enc v).length ∧ (vs.enc v).length ≤ 10 := vs.encF_len 9 v
theorem tE_len (t : VT) : (tE t).length ≤ 21 * t.size := by
  induction t using Tr.ind with
  | h x l ih =>
  rw [tE_mk, Tr.size_mk]
  have h1 := enc_ln (zigs.zig x.n)
  have h2 := enc_ln (l.length : Nat)
  have h3 : ((l.map tE).flatten).length ≤ 21 * (l.map Tr.size).sum := by
    clear h2
    induction l with
    | nil => simp
    | cons y l ihl =>
      have a := ih y (by simp)
      have b := ihl (fun z hz => ih z (by simp [hz]))
      simp only [List.map_cons, List.flatten_cons, List.length_append, List.sum_cons]
      omega
  simp only [List.length_cons, List.length_append]
  omega
theorem tE_bytes (t : VT) : in64 t → t.size ≤ 1000000 → ∀ lv, erT t lv = 0 → ∀ z ∈ tE t, 0 ≤ z ∧ z ≤ 255 := by
  induction t using Tr.ind with
  | h x l ih =>
  intro hi hsz lv he z hz
  have hlen := Tr.len_size (x := x) (l := l)
  obtain ⟨h1, h2, h3, h4⟩ := er_ok he
  obtain ⟨hx, hl⟩ := (Tr.all_mk _ _ _).1 hi
  rw [tE_mk] at hz
  have ab : ∀ v : Int, 0 ≤ v → v ≤ 18446744073709551615 → ∀ z ∈ vs.enc v, 0 ≤ z ∧ z ≤ 255 := fun v a b => vs.enc_bytes v a b
  rcases List.mem_cons.1 hz with rfl | hz
  · omega
  rcases List.mem_append.1 hz with hz | hz
  · have := zigs.zig_bd x.n (by have := hx.2.1; omega) (by have := hx.2.1; omega)
    exact ab _ this.1 this.2 z hz
  rcases List.mem_append.1 hz with hz | hz
  · exact ab _ (by omega) (by omega) z hz
  · obtain ⟨L, hL, hz⟩ := List.mem_flatten.1 hz
    obtain ⟨y, hy, rfl⟩ := List.mem_map.1 hL
    obtain ⟨i, hi⟩ := List.mem_iff_getElem?.1 hy
    have := Tr.size_at (x := x) hi
    exact ih y hy (hl y hy) (by omega) _ (h4 y hy) z hz
def seqW : List (List Int × Int) → List Int
  | [] => []
  | p :: r => p.1 ++ (if p.2 = 0 then seqW r else [])
noncomputable def wrT (t : VT) : Int → List Int := Tr.fold (fun x l fs tr => if 64 ≤ tr then [] else (if 1 ≤ x.k ∧ x.k ≤ 36 then [x.k] else []) ++ (vs.enc (zigs.zig x.n) ++ (vs.enc (l.length : Nat) ++ (if (1 ≤ x.k ∧ x.k ≤ 36) ∧ frmC x then seqW ((l.zip fs).map fun p => (p.2 (tr + 1), erT p.1 (tr + 2))) else [])))) t
theorem wrT_mk (x : Lab) (l : List VT) (tr : Int) : wrT (.mk x l) tr = if 64 ≤ tr then [] else (if 1 ≤ x.k ∧ x.k ≤ 36 then [x.k] else []) ++ (vs.enc (zigs.zig x.n) ++ (vs.enc (l.length : Nat) ++ (if (1 ≤ x.k ∧ x.k ≤ 36) ∧ frmC x then seqW (l.map fun y => (wrT y (tr + 1), erT y (tr + 2))) else []))) := by
  have e : ∀ l : List VT, ((l.zip (l.map fun y => wrT y)).map fun p => (p.2 (tr + 1), erT p.1 (tr + 2))) = l.map fun y => (wrT y (tr + 1), erT y (tr + 2)) := fun l => by
    induction l with
    | nil => rfl
    | cons y l ih => simp only [List.map_cons, List.zip_cons_cons, ih]
  rw [← e l]
  unfold wrT
  rw [Tr.fold_mk]
theorem seq_snoc (p : List Int × Int) : ∀ l : List (List Int × Int), seqW (l ++ [p]) = if fstE (l.map (·.2)) = 0 then seqW l ++ p.1 else seqW l
  | [] => by simp [seqW, fstE]
  | q :: l => by
    rw [List.cons_append, seqW, List.map_cons, seqW]
    unfold fstE
    by_cases h : q.2 = 0
    · rw [if_pos h, if_pos h, if_pos h, seq_snoc p l]
      split
      · rw [List.append_assoc]
      · rfl
    · rw [if_neg h, if_neg h, if_neg h, if_neg h]
theorem seq_all : ∀ {l : List (List Int × Int)}, (∀ p ∈ l, p.2 = 0) → seqW l = (l.map (·.1)).flatten
  | [], _ => rfl
  | p :: l, h => by
    rw [seqW, if_pos (h p (by simp)), seq_all (fun q hq => h q (by simp [hq]))]
    rfl
theorem wr_ok (t : VT) : ∀ tr, erT t (tr + 1) = 0 → wrT t tr = tE t := by
  induction t using Tr.ind with
  | h x l ih =>
  intro tr h
  obtain ⟨h1, h2, h3, h4⟩ := er_ok h
  have h4 : ∀ y ∈ l, erT y (tr + 2) = 0 := fun y hy => by have := h4 y hy; rwa [show tr + 1 + 1 = tr + 2 by omega] at this
  rw [wrT_mk, tE_mk, if_neg (by omega), if_pos h2, if_pos ⟨h2, h3⟩, seq_all (fun p hp => by
    obtain ⟨y, hy, rfl⟩ := List.mem_map.1 hp
    exact h4 y hy), List.map_map]
  have e : (l.map ((·.1) ∘ fun y => (wrT y (tr + 1), erT y (tr + 2)))) = l.map tE := List.map_congr_left fun y hy => ih y hy (tr + 1) (by rw [show tr + 1 + 1 = tr + 2 by omega]; exact h4 y hy)
  rw [e]
  rfl
theorem seq_len : ∀ (l : List (List Int × Int)) (ns : List Nat), l.length = ns.length → (∀ (i : Nat) p n, l[i]? = some p → ns[i]? = some n → p.1.length ≤ n) → (seqW l).length ≤ ns.sum
  | [], ns, _, _ => by simp [seqW]
  | p :: l, [], h, _ => by simp at h
  | p :: l, n :: ns, h, hb => by
    have h1 := hb 0 p n rfl rfl
    have h2 := seq_len l ns (by simpa using h) (fun i q m hq hm => hb (i + 1) q m hq hm)
    rw [seqW, List.length_append, List.sum_cons]
    split
    · omega
    · simp; omega
theorem wr_len (t : VT) : ∀ tr, (wrT t tr).length ≤ 21 * t.size := by
  induction t using Tr.ind with
  | h x l ih =>
  intro tr
  rw [wrT_mk, Tr.size_mk]
  have h1 := enc_ln (zigs.zig x.n)
  have h2 := enc_ln (l.length : Nat)
  have h3 := seq_len (l.map fun y => (wrT y (tr + 1), erT y (tr + 2))) (l.map fun y => 21 * y.size) (by simp) (fun i p n hp hn => by
    rw [List.getElem?_map] at hp hn
    obtain ⟨y, hy, rfl⟩ := Option.map_eq_some_iff.1 hp
    rw [hy] at hn
    obtain rfl := Option.some.inj hn
    exact ih y (List.mem_of_getElem? hy) (tr + 1))
  have h4 : (l.map fun y => 21 * y.size).sum = 21 * (l.map Tr.size).sum := by
    clear h3 ih h2
    induction l with
    | nil => rfl
    | cons y l ih => simp only [List.map_cons, List.sum_cons, ih]; omega
  split
  · simp
  · simp only [List.length_append]
    split <;> split <;> simp <;> omega
end Go.Proofs.Ytcjagcfjpfjanaa.am
end
section
namespace Go.Proofs.Ytcjagcfjpfjanaa.am
open Go.ChangeShapes Go.WideShapes Go.ChangeAt Go.RowKit
set_option linter.unusedVariables false
set_option linter.unusedSimpArgs false
theorem cg {P : Program} {N f : Nat} {dst : Option Nat} {first caps : List Cap} {args cargs : List AV} {ch : List AO} {ch' : List (Option AO)} {res : AV} {st : St} {K : St → Prop} (hrow : Row P f cargs ch res ch') (σ : List Nat) (hk : K ((st.wr (wrs (nmap σ ch.length st.nx) 0 ch') 8).put dst (res.ren (nmap σ ch.length st.nx)))) (hfit : fitVs ch.length (fun i => σ.getD i 0) cargs (first.map capV ++ args ++ caps.map capV) := by first | (simp [*]; done) | fail) (ho : covO (hlk st.hp) ch.length (fun i => σ.getD i 0) (ch.map some) σ := by first | (simp [*]; done) | fail) (hnd : σ.Nodup := by first | decide | (simp; done) | fail) (hl : ch'.length ≤ ch.length + 8 := by first | decide | (simp; done) | fail) (hl' : ch.length ≤ ch'.length := by first | decide | (simp; done) | fail) (hd : dok N dst = true := by rfl) :
    CallK P N dst (.v (.c (.fn (.func f) first caps))) args st K := ⟨f, first, caps, cargs, ch, res, ch', σ, rfl, hrow, hfit, ho, hnd, hl, hl', hd, hk⟩
theorem dg {P : Program} {N f : Nat} {dst : Option Nat} {first caps : List Cap} {args cargs : List AV} {ch : List AO} {ch' : List (Option AO)} {res : AV} {st : St} {K : List Nat → List Nat → St → Prop} (hrow : Row P f cargs ch res ch') (σ : List Nat) (hk : K σ ((wrs (nmap σ ch.length st.nx) 0 ch').map (·.1)) ((st.wr (wrs (nmap σ ch.length st.nx) 0 ch') 8).put dst (res.ren (nmap σ ch.length st.nx)))) (hfit : fitVs ch.length (fun i => σ.getD i 0) cargs (first.map capV ++ args ++ caps.map capV) := by first | (simp [*]; done) | fail) (ho : covO (hlk st.hp) ch.length (fun i => σ.getD i 0) (ch.map some) σ := by first | (simp [*]; done) | fail) (hnd : σ.Nodup := by first | decide | (simp; done) | fail) (hl : ch'.length ≤ ch.length + 8 := by first | decide | (simp; done) | fail) (hl' : ch.length ≤ ch'.length := by first | decide | (simp; done) | fail) (hd : dok N dst = true := by rfl) :
    CallD P N dst (.v (.c (.fn (.func f) first caps))) args st K := ⟨f, first, caps, cargs, ch, res, ch', σ, rfl, hrow, hfit, ho, hnd, hl, hl', hd, hk⟩
attribute [simp] wrs nmap AC.ren AT.ren AV.ren AO.ren Cap.ren
def FinG (P : Program) (rs : List ResultVar) (res : AV) (ch' : List (Option AO)) (r : List Nat) (st : St) : Prop :=
  match resV P st rs with
  | some x => fitV ch'.length (fun i => r.getD i 0) res x ∧ covO (hlk st.hp) ch'.length (fun i => r.getD i 0) ch' r
  | none => False
theorem fin_g {P : Program} {nb : Nat} {rs : List ResultVar} {res : AV} {ch' : List (Option AO)} {st : St} (r : List Nat) (h : FinG P rs res ch' r st) (hnd : r.Nodup := by first | decide | (simp; done)) (ht : r.take nb = List.range nb := by rfl) (hl : nb ≤ ch'.length := by first | decide | (simp; done)) : Fin P nb rs res ch' .ret st := by
  unfold FinG at h
  split at h
  · rename_i x hx; exact ⟨x, r, hx, h.1, h.2, hnd, ht, hl⟩
  · exact h.elim
section
variable {X : Ctx} {H : Nat → Option AO} {U : Nat → Prop} {γ : Nat → G} {S : CS} {w : World}
def AC.frz (id : Nat) (p : PV) : AC → AC
  | .arr i es n => if i = id then .pv p else .arr i es n
  | .vw i es lo n => if i = id then (match p with | .sl es' l => if es' = es ∧ lo + n ≤ l.length ∧ (lo = 0 ∨ 0 < n) then .pv (.sl es ((l.drop lo).take n)) else .top | _ => .top) else .vw i es lo n
  | c => c
def AT.frz (id : Nat) (p : PV) : AT → AT
  | .c x => .c (x.frz id p)
  | .agg l => .agg (l.map (AC.frz id p))
def AV.frz (id : Nat) (p : PV) : AV → AV
  | .v x => .v (x.frz id p)
  | .ep i es k o => if i = id then .top else .ep i es k o
  | .tup l => .tup (l.map (AT.frz id p))
  | x => x
def AO.frz (id : Nat) (p : PV) : AO → AO
  | .box l => .box (l.map (AC.frz id p))
  | o => o
theorem RepC.frz {γ' : Nat → G} {id : Nat} {p : PV} {v0 : Value} (hg : γ id = .val v0) (hp : RepP S w v0 p) (hγ : γ' = upd γ id .dead) (hG : GOn γ γ') {v : Value} {c : AC} (h : RepC γ S w v c) : RepC γ' S w v (c.frz id p) := by
  have hm : ∀ {c}, RepC γ S w v c → RepC γ' S w v c := fun h => h.mono hG (fun _ _ h => h) (fun _ _ _ => rfl)
  cases c with
  | arr i es n =>
    show RepC γ' S w v (if i = id then .pv p else .arr i es n)
    by_cases hi : i = id
    · rw [if_pos hi]
      subst hi
      rcases h.2 with k | k
      · rw [hg] at k; cases k
      · rw [hg] at k; cases k; exact hp
    · rw [if_neg hi]; exact hm h
  | vw i es lo n =>
    have h1 := h.one
    by_cases hi : i = id
    · subst hi
      unfold AC.frz
      dsimp only
      rw [if_pos rfl]
      split
      · rename_i es' l
        split
        · rename_i hc
          obtain ⟨rfl, hc, hd⟩ := hc
          obtain ⟨a, m, c, hx, a1, hl1, hl2, ha1, rfl⟩ := h
          rcases hx with k | k
          · rw [hg] at k; cases k
          rw [hg] at k; cases k
          obtain ⟨a2, c2, e2, hs⟩ := sl_inv hp
          injection e2 with q1 q2 q3
          subst q1 q2 q3
          have hln : ((l.drop lo).take n).length = n := by rw [List.length_take, List.length_drop]; omega
          have key := hs.part lo (lo + n) c (by omega) (by omega) (Nat.le_refl _) (by omega)
          have e3 : (l.take (lo + n)).drop lo = (l.drop lo).take n := by rw [List.drop_take]; congr 1; omega
          rw [e3] at key
          have key := sl_intro key
          rw [hln] at key
          rcases hd with hd | hd
          · subst hd
            have hz0 : ∀ z : Addr, z.add 0 = z := fun z => by unfold Addr.add; split <;> simp_all
            have e4 : a1 = a := by rw [ha1 (.inl rfl)]; cases a <;> simp [hz0]
            rw [e4]
            have e5 : (if c = 0 then a else a.map (·.add (0 * es'))) = a := by
              split
              · rfl
              · cases a <;> simp [hz0]
            rw [e5] at key
            exact key
          · rw [ha1 (.inr hd)]
            rw [if_neg (by omega)] at key
            exact key
        · exact h1
      · exact h1
    · unfold AC.frz
      dsimp only
      rw [if_neg hi]; exact hm h
  | _ => exact hm h
theorem RepCs.frz {γ' : Nat → G} {id : Nat} {p : PV} {v0 : Value} (hg : γ id = .val v0) (hp : RepP S w v0 p) (hγ : γ' = upd γ id .dead) (hG : GOn γ γ') {vs : List Value} {l : List AC} (h : RepCs γ S w vs l) : RepCs γ' S w vs (l.map (AC.frz id p)) := by
  refine ⟨by rw [List.length_map]; exact h.1, fun i c hi => ?_⟩
  obtain ⟨x, hx, rfl⟩ := map_at hi
  obtain ⟨v, h1, h2⟩ := h.2 i x hx
  exact ⟨v, h1, h2.frz hg hp hγ hG⟩
theorem RepT.frz {γ' : Nat → G} {id : Nat} {p : PV} {v0 : Value} (hg : γ id = .val v0) (hp : RepP S w v0 p) (hγ : γ' = upd γ id .dead) (hG : GOn γ γ') {v : Value} {c : AT} (h : RepT γ S w v c) : RepT γ' S w v (c.frz id p) := by
  cases c with
  | c x => exact RepC.frz hg hp hγ hG h
  | agg l => obtain ⟨cs, h1, h2⟩ := h; exact ⟨cs, h1, h2.frz hg hp hγ hG⟩
theorem RepV.frz {γ' : Nat → G} {id : Nat} {p : PV} {v0 : Value} (hg : γ id = .val v0) (hp : RepP S w v0 p) (hγ : γ' = upd γ id .dead) (hG : GOn γ γ') {v : Value} {c : AV} (h : RepV γ S w v c) : RepV γ' S w v (c.frz id p) := by
  cases c with
  | v x => exact RepT.frz hg hp hγ hG h
  | tup l =>
    obtain ⟨cs, h1, h2⟩ := h
    refine ⟨cs, h1, by rw [List.length_map]; exact h2.1, fun i c hi => ?_⟩
    obtain ⟨x, hx, rfl⟩ := map_at hi
    obtain ⟨v, h3, h4⟩ := h2.2 i x hx
    exact ⟨v, h3, h4.frz hg hp hγ hG⟩
  | ep i es k o =>
    show RepV γ' S w v (if i = id then .top else .ep i es k o)
    by_cases hi : i = id
    · rw [if_pos hi]; trivial
    · rw [if_neg hi]; exact RepV.mono hG (fun _ _ h => h) (fun _ _ _ => rfl) h
  | rp c o => exact h
  | top => trivial
end
section
variable {P : Program} {N nb : Nat} {st : St} {Q : Exit → St → Prop}
def St.frz (st : St) (id es : Nat) (l : List (List PV)) : St := ⟨st.tm.map fun p => (p.1, p.2.frz id (.sl es l)), st.hp.map fun p => (p.1, if p.1 = id then none else p.2.map (AO.frz id (.sl es l))), st.nx⟩
end
end Go.Proofs.Ytcjagcfjpfjanaa.am
end
section
namespace Go.Proofs.Ytcjagcfjpfjanaa.vt
open Go.Proofs.Ytcjagcfjpfjanaa.am
set_option linter.unusedVariables false
end Go.Proofs.Ytcjagcfjpfjanaa.vt
end
section
namespace Go.Proofs.Ytcjagcfjpfjanaa.am
open vt
theorem td_int : td Try.prog 3 = some ⟨false, 1, 8, [.lit (.int .i64 0)], [], (.int .i64)⟩ := Eq.trans (by kernel_rfl) (Eq.refl _)
theorem td_bool : td Try.prog 4 = some ⟨false, 1, 1, [.lit (.bool false)], [], .bool⟩ := Eq.trans (by kernel_rfl) (Eq.refl _)
theorem td_string : td Try.prog 9 = some ⟨false, 1, 16, [.lit (.string ⟨#[]⟩)], [], .string⟩ := Eq.trans (by kernel_rfl) (Eq.refl _)
attribute [simp] td_int td_bool td_string
theorem mixd : Try.prog.follows .mixedOrders = true := by kernel_rfl
theorem td_term : td Try.prog 25 = some ⟨true, 6, 72, [.lit (.int .i64 0), .lit (.int .i64 0), .lit (.string ⟨#[]⟩), .nilS, .lit (.int .i64 0), .lit (.int .i64 0)], [(0, 1, false), (1, 1, false), (2, 1, false), (3, 1, false), (4, 1, false), (5, 1, false)], .struct⟩ := Eq.trans (by kernel_rfl) (Eq.refl _)
theorem td_terms : td Try.prog 23 = some ⟨false, 1, 24, [.nilS], [], (.slice 25)⟩ := Eq.trans (by kernel_rfl) (Eq.refl _)
theorem td_int64 : td Try.prog 2 = some ⟨false, 1, 8, [.lit (.int .i64 0)], [], (.int .i64)⟩ := Eq.trans (by kernel_rfl) (Eq.refl _)
attribute [simp] td_term td_terms td_int64
end Go.Proofs.Ytcjagcfjpfjanaa.am
end
section
namespace Go.Proofs.Ytcjagcfjpfjanaa.am
open Go.ChangeShapes Go.WideShapes Go.ChangeAt Go.RowKit
open vt
set_option linter.unusedVariables false
set_option linter.unusedSimpArgs false
theorem td_ints : td Try.prog 37 = some ⟨false, 1, 24, [.nilS], [], (.slice 3)⟩ := Eq.trans (by kernel_rfl) (Eq.refl _)
attribute [simp] td_ints
abbrev Is (l : List Int) : PV := .sl 1 (l.map fun z => [I z])
abbrev vIs (l : List Int) : AV := .v (.c (.pv (Is l)))
def ok64 (l : List Int) : Prop := ∀ z ∈ l, -9223372036854775808 ≤ z ∧ z ≤ 9223372036854775807
end Go.Proofs.Ytcjagcfjpfjanaa.am
end
section
namespace Go.Proofs.Ytcjagcfjpfjanaa.vt
open Go.Proofs.Ytcjagcfjpfjanaa.am
set_option linter.unusedVariables false
structure SLab where
  r : Int
  b : Bool
  p : List Int
  n : List Int
  t : VT
structure DLab where
  k : Int
  p : List Int
  s : SLab
abbrev DT := Tr DLab
noncomputable def scS (s : SLab) : List PV := [I s.r, Bo s.b, Is s.p, Is s.n] ++ tc s.t
noncomputable def saS (s : SLab) : List AC := [.pv (I s.r), .pv (Bo s.b), .pv (Is s.p), .pv (Is s.n)] ++ ta s.t
theorem saS_eq (s : SLab) : (scS s).map .pv = saS s := by unfold scS saS ta; simp
theorem scS_len (s : SLab) : (scS s).length = 10 := by unfold scS; rw [List.length_append, tc_len]; rfl
theorem saS_len (s : SLab) : (saS s).length = 10 := by rw [← saS_eq, List.length_map]; exact scS_len s
noncomputable abbrev vSt36 (s : SLab) : AV := .v (.agg (saS s))
noncomputable def dc (d : DT) : List PV := Tr.fold (fun x _ b => I x.k :: Is x.p :: (scS x.s ++ [.sl 13 b])) d
theorem dc_mk (x : DLab) (l : List DT) : dc (.mk x l) = I x.k :: Is x.p :: (scS x.s ++ [.sl 13 (l.map dc)]) := Tr.fold_mk _ x l
theorem dc_len (d : DT) : (dc d).length = 13 := by cases d; rw [dc_mk]; simp [scS_len]
noncomputable def da (d : DT) : List AC := (dc d).map .pv
theorem da_mk (x : DLab) (l : List DT) : da (.mk x l) = .pv (I x.k) :: .pv (Is x.p) :: (saS x.s ++ [.pv (.sl 13 (l.map dc))]) := by unfold da; rw [dc_mk, List.map_cons, List.map_cons, List.map_append, saS_eq]; rfl
noncomputable abbrev vD (d : DT) : AV := .v (.agg (da d))
noncomputable abbrev vDs (l : List DT) : AV := .v (.c (.pv (.sl 13 (l.map dc))))
theorem da_len (d : DT) : (da d).length = 13 := by unfold da; rw [List.length_map]; exact dc_len d
theorem da_pure (d : DT) : (da d).mapM pureC = some (dc d) := mapM_pure _
theorem saS_pure (s : SLab) : (saS s).mapM pureC = some (scS s) := by rw [← saS_eq]; exact mapM_pure _
theorem fit_da {n : Nat} {ρ : Nat → Nat} (d : DT) : fitCs n ρ (da d) (da d) := fit_pure _
theorem fit_saS {n : Nat} {ρ : Nat → Nat} (s : SLab) : fitCs n ρ (saS s) (saS s) := by rw [← saS_eq]; exact fit_pure _
theorem da_take (d : DT) : (da d).take 13 = da d := List.take_of_length_le (by rw [da_len]; exact Nat.le_refl _)
def SLab.ok (s : SLab) : Prop := (-9223372036854775808 ≤ s.r ∧ s.r ≤ 9223372036854775807) ∧ ok64 s.p ∧ ok64 s.n ∧ in64 s.t
def DLab.ok (x : DLab) : Prop := (-9223372036854775808 ≤ x.k ∧ x.k ≤ 9223372036854775807) ∧ ok64 x.p ∧ x.s.ok
noncomputable abbrev dok64 (d : DT) : Prop := Tr.all DLab.ok d
end Go.Proofs.Ytcjagcfjpfjanaa.vt
end
section
namespace Go.Proofs.Ytcjagcfjpfjanaa.am
open vt
set_option linter.unusedVariables false
set_option linter.unusedSimpArgs false
def lE (l : List Int) : List Int := vs.enc (l.length : Nat) ++ (l.map vs.enc).flatten
def smE (z : Int) : Int := if z < 0 ∨ 2147483647 < z then 13 else 0
def lEr (l : List Int) : Int := fstE (l.map smE)
noncomputable def sE (s : SLab) : List Int := vs.enc s.r ++ ((if s.b = true then 1 else 0) :: (lE s.p ++ (lE s.n ++ tE s.t)))
noncomputable def sEr (s : SLab) : Int := fstE [smE s.r, lEr s.p, lEr s.n, erT s.t 1]
noncomputable abbrev zT36 : VT := .mk ⟨0, 0, ⟨#[]⟩, 0, 0⟩ []
noncomputable def bareS (s : SLab) : Bool := decide (s.r = 0) && (!s.b && (decide (s.p.length = 0) && (decide (s.n.length = 0) && plac s.t zT36)))
def frmD (x : DLab) (n : Nat) : Prop := (x.k ≠ 3 → x.p.length = 0) ∧ (x.k = 1 → n = 0) ∧ (x.k ≠ 1 → bareS x.s = true)
noncomputable instance (x : DLab) (n : Nat) : Decidable (frmD x n) := Classical.propDecidable _
def kndD (k : Int) : Prop := k = 1 ∨ k = 2 ∨ k = 3
instance (k : Int) : Decidable (kndD k) := by unfold kndD; infer_instance
noncomputable def dEr (d : DT) : Int → Int := Tr.fold (fun x l fs lv => if 64 < lv then 7 else if ¬ kndD x.k then 23 else if ¬ frmD x l.length then 2 else if x.k = 1 then sEr x.s else if x.k = 3 ∧ lEr x.p ≠ 0 then lEr x.p else fstE (fs.map fun f => f (lv + 1))) d
theorem dEr_mk (x : DLab) (l : List DT) (lv : Int) : dEr (.mk x l) lv = if 64 < lv then 7 else if ¬ kndD x.k then 23 else if ¬ frmD x l.length then 2 else if x.k = 1 then sEr x.s else if x.k = 3 ∧ lEr x.p ≠ 0 then lEr x.p else fstE (l.map fun y => dEr y (lv + 1)) := by
  unfold dEr
  rw [Tr.fold_mk, List.map_map]
  rfl
noncomputable def dE (d : DT) : List Int := Tr.fold (fun x l bs => x.k :: (if x.k = 1 then sE x.s else (if x.k = 3 then lE x.p else []) ++ (vs.enc (l.length : Nat) ++ bs.flatten))) d
theorem dE_mk (x : DLab) (l : List DT) : dE (.mk x l) = x.k :: (if x.k = 1 then sE x.s else (if x.k = 3 then lE x.p else []) ++ (vs.enc (l.length : Nat) ++ (l.map dE).flatten)) := Tr.fold_mk _ x l
theorem lEr_zero {l : List Int} (h : lEr l = 0) : ∀ z ∈ l, 0 ≤ z ∧ z ≤ 2147483647 := fun z hz => by
  have := fst_zero h (smE z) (List.mem_map.2 ⟨z, hz, rfl⟩)
  unfold smE at this
  split at this
  · cases this
  · omega
theorem dEr_ok {x : DLab} {l : List DT} {lv : Int} (h : dEr (.mk x l) lv = 0) : lv ≤ 64 ∧ kndD x.k ∧ frmD x l.length ∧ (x.k = 1 → sEr x.s = 0) ∧ (x.k = 3 → lEr x.p = 0) ∧ (x.k ≠ 1 → ∀ y ∈ l, dEr y (lv + 1) = 0) := by
  rw [dEr_mk] at h
  by_cases h1 : 64 < lv
  · rw [if_pos h1] at h; exact absurd h (by decide)
  rw [if_neg h1] at h
  by_cases h2 : kndD x.k; rotate_left
  · rw [if_pos h2] at h; exact absurd h (by decide)
  rw [if_neg (fun k => k h2)] at h
  by_cases h3 : frmD x l.length; rotate_left
  · rw [if_pos h3] at h; exact absurd h (by decide)
  rw [if_neg (fun k => k h3)] at h
  refine ⟨by omega, h2, h3, fun e => by rwa [if_pos e] at h, fun e => ?_, fun e y hy => ?_⟩
  · rw [if_neg (by omega)] at h
    by_cases h4 : lEr x.p = 0
    · exact h4
    · rw [if_pos ⟨e, h4⟩] at h; exact h
  · rw [if_neg e] at h
    by_cases h4 : x.k = 3 ∧ lEr x.p ≠ 0
    · rw [if_pos h4] at h; exact absurd h h4.2
    · rw [if_neg h4] at h
      exact fst_zero h _ (List.mem_map.2 ⟨y, hy, rfl⟩)
theorem sEr_ok {s : SLab} (h : sEr s = 0) : (0 ≤ s.r ∧ s.r ≤ 2147483647) ∧ lEr s.p = 0 ∧ lEr s.n = 0 ∧ erT s.t 1 = 0 := by
  have hz := fst_zero h
  have h1 : smE s.r = 0 := hz _ (by simp)
  refine ⟨?_, hz _ (by simp), hz _ (by simp), hz _ (by simp)⟩
  unfold smE at h1
  split at h1
  · cases h1
  · omega
theorem encs_len (l : List Int) : ((l.map vs.enc).flatten).length ≤ 10 * l.length := by
  induction l with
  | nil => simp
  | cons z l ih =>
    have := (enc_ln z).2
    simp only [List.map_cons, List.flatten_cons, List.length_append, List.length_cons]
    omega
theorem lE_len (l : List Int) : (lE l).length ≤ 10 + 10 * l.length := by
  have h1 := (enc_ln (l.length : Nat)).2
  have h2 := encs_len l
  unfold lE
  rw [List.length_append]
  omega
def smD (x : DLab) : Prop := x.p.length ≤ 100 ∧ x.s.p.length ≤ 100 ∧ x.s.n.length ≤ 100 ∧ x.s.t.size ≤ 400
theorem sE_len {x : DLab} (h : smD x) : (sE x.s).length ≤ 10500 := by
  obtain ⟨h0, h1, h2, h3⟩ := h
  have a := (enc_ln x.s.r).2
  have b := lE_len x.s.p
  have c := lE_len x.s.n
  have d := tE_len x.s.t
  unfold sE
  simp only [List.length_append, List.length_cons]
  omega
theorem dE_len (d : DT) : Tr.all smD d → (dE d).length ≤ 12000 * d.size := by
  induction d using Tr.ind with
  | h x l ih =>
  intro hs
  obtain ⟨hx, hl⟩ := (Tr.all_mk _ _ _).1 hs
  rw [dE_mk, Tr.size_mk]
  have h1 := sE_len hx
  have h2 := lE_len x.p
  have h3 := (enc_ln (l.length : Nat)).2
  have h0 := hx.1
  have h4 : ((l.map dE).flatten).length ≤ 12000 * (l.map Tr.size).sum := by
    clear h3 hs
    induction l with
    | nil => simp
    | cons y l ihl =>
      have a := ih y (by simp) (hl y (by simp))
      have b := ihl (fun z hz => ih z (by simp [hz])) (fun z hz => hl z (by simp [hz]))
      simp only [List.map_cons, List.flatten_cons, List.length_append, List.sum_cons]
      omega
  simp only [List.length_cons]
  split
  · omega
  · simp only [List.length_append]
    split
    · omega
    · simp only [List.length_nil]; omega
theorem lE_bytes {l : List Int} (h : ∀ z ∈ l, 0 ≤ z ∧ z ≤ 2147483647) (hn : l.length ≤ 1000000) : ∀ z ∈ lE l, 0 ≤ z ∧ z ≤ 255 := fun z hz => by
  unfold lE at hz
  rcases List.mem_append.1 hz with hz | hz
  · exact vs.enc_bytes _ (by omega) (by omega) z hz
  · obtain ⟨L, hL, hz⟩ := List.mem_flatten.1 hz
    obtain ⟨y, hy, rfl⟩ := List.mem_map.1 hL
    have := h y hy
    exact vs.enc_bytes _ (by omega) (by omega) z hz
theorem sE_bytes {x : DLab} (hx : x.ok) (hs : smD x) (he : sEr x.s = 0) : ∀ z ∈ sE x.s, 0 ≤ z ∧ z ≤ 255 := fun z hz => by
  obtain ⟨h1, h2, h3, h4⟩ := sEr_ok he
  obtain ⟨-, -, -, -, -, ht⟩ := hx
  obtain ⟨-, s1, s2, s3⟩ := hs
  unfold sE at hz
  rcases List.mem_append.1 hz with hz | hz
  · exact vs.enc_bytes _ h1.1 (by omega) z hz
  rcases List.mem_cons.1 hz with rfl | hz
  · split <;> omega
  rcases List.mem_append.1 hz with hz | hz
  · exact lE_bytes (lEr_zero h2) (by omega) z hz
  rcases List.mem_append.1 hz with hz | hz
  · exact lE_bytes (lEr_zero h3) (by omega) z hz
  · exact tE_bytes x.s.t ht (by omega) 1 h4 z hz
theorem dE_bytes (d : DT) : dok64 d → Tr.all smD d → d.size ≤ 1000000 → ∀ lv, dEr d lv = 0 → ∀ z ∈ dE d, 0 ≤ z ∧ z ≤ 255 := by
  induction d using Tr.ind with
  | h x l ih =>
  intro hi hs hsz lv he z hz
  have hlen := Tr.len_size (x := x) (l := l)
  obtain ⟨h1, h2, h3, h4, h5, h6⟩ := dEr_ok he
  obtain ⟨hx, hl⟩ := (Tr.all_mk _ _ _).1 hi
  obtain ⟨sx, sl⟩ := (Tr.all_mk _ _ _).1 hs
  rw [dE_mk] at hz
  rcases List.mem_cons.1 hz with rfl | hz
  · rcases h2 with h | h | h <;> omega
  split at hz
  · rename_i hk
    exact sE_bytes hx sx (h4 hk) z hz
  rename_i hk
  rcases List.mem_append.1 hz with hz | hz
  · split at hz
    · rename_i hk3
      have := sx.1
      exact lE_bytes (lEr_zero (h5 hk3)) (by omega) z hz
    · cases hz
  rcases List.mem_append.1 hz with hz | hz
  · exact vs.enc_bytes _ (by omega) (by omega) z hz
  · obtain ⟨L, hL, hz⟩ := List.mem_flatten.1 hz
    obtain ⟨y, hy, rfl⟩ := List.mem_map.1 hL
    obtain ⟨i, hi'⟩ := List.mem_iff_getElem?.1 hy
    have := Tr.size_at (x := x) hi'
    exact ih y hy (hl y hy) (sl y hy) (by omega) _ (h6 hk y hy) z hz
end Go.Proofs.Ytcjagcfjpfjanaa.am
end
section
namespace Go.Proofs.Ytcjagcfjpfjanaa.vs
open Go.ChangeShapes Go.WideShapes Go.ChangeAt Go.RowKit
open bs
set_option linter.unusedVariables false
theorem getAt_out (l : List Int) (at' : Int) (h : at' < 0 ∨ (l.length : Int) < at') : getAt l at' = (0, 0, 13) := by unfold getAt; rw [if_pos h]
theorem getAt_end (l : List Int) (h : l.length = 0) : getAt l 0 = (0, 0, 1) := by
  rw [List.eq_nil_of_length_eq_zero h]; rfl
set_option maxRecDepth 100000 in
set_option maxHeartbeats 1000000 in
theorem get_any (a : Option Addr) (n c : Nat) (l : List Int) (at' : Int) (w : World) (h : Bytes w a n c l) (hn : n ≤ 140737488355328) (h0 : -9223372036854775808 ≤ at') (h1 : at' ≤ 9223372036854775807) :
    Calls Try.prog 70 #[.slice a n c, .int .i64 at'] w fun e w' => e = .returned (.tuple #[.int .u64 (getAt l at').1, .int .i64 (getAt l at').2.1, .int .i64 (getAt l at').2.2]) ∧ w' = w := by
  by_cases hlo : at' < 0
  · rw [getAt_out l at' (.inl hlo)]
    clear h
    go_enter Try.func70, Try.ntmps70
    go_wp2
    go_ret3
    exact ⟨rfl, rfl⟩
  · by_cases hhi : (n : Int) < at'
    · rw [getAt_out l at' (.inr (by rw [h.len]; exact hhi))]
      clear h
      have d0 : decide (at' < 0) = false := by simpa using hlo
      go_enter Try.func70, Try.ntmps70
      go_wp2
      go_ret3
      exact ⟨rfl, rfl⟩
    · by_cases hz : n = 0
      · subst hz
        obtain rfl : at' = 0 := by omega
        rw [getAt_end l h.len]
        clear h
        go_enter Try.func70, Try.ntmps70
        go_wp2
        go_loop [7, 18] (fun v i => v = .int .u64 0 ∧ i = .int .i64 0) (fun _ _ => 0)
        case atStart => exact ⟨rfl, rfl⟩
        case round =>
          obtain ⟨rfl, rfl⟩ := hrel
          go_wp2
          go_ret3
          exact ⟨rfl, rfl⟩
      · obtain ⟨q, rfl⟩ := Int.eq_ofNat_of_zero_le (show 0 ≤ at' by omega)
        exact get_in a n c l q w h hn (by omega) (by omega)
end Go.Proofs.Ytcjagcfjpfjanaa.vs
end
