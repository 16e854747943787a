import Derived.Test.YtlkggpjdaaglmaaGreatDoorPkB3
section
namespace Go.Proofs.YtlkggpjdaaglmaaGreatDoor.vt
open Go.Proofs.YtlkggpjdaaglmaaGreatDoor.am
set_option linter.unusedVariables false
inductive Tr (α : Type) where
  | mk (x : α) (l : List (Tr α))
namespace Tr
variable {α : Type}
def lab : Tr α → α
  | .mk x _ => x
def kids : Tr α → List (Tr α)
  | .mk _ l => l
theorem ind {P : Tr α → Prop} (h : ∀ x l, (∀ y ∈ l, P y) → P (.mk x l)) (t : Tr α) : P t :=
  Tr.rec (motive_1 := P) (motive_2 := fun l => ∀ y ∈ l, P y) h (fun y hy => by simp at hy) (fun x l hx hl y hy => by
    rcases List.mem_cons.1 hy with rfl | hy
    · exact hx
    · exact hl y hy) t
theorem eta (t : Tr α) : Tr.mk t.lab t.kids = t := by cases t; rfl
noncomputable def fold {β : Type} (g : α → List (Tr α) → List β → β) (t : Tr α) : β :=
  Tr.rec (motive_1 := fun _ => β) (motive_2 := fun _ => List β) (fun x l ih => g x l ih) [] (fun _ _ a b => a :: b) t
theorem fold_mk {β : Type} (g : α → List (Tr α) → List β → β) (x : α) (l : List (Tr α)) : fold g (.mk x l) = g x l (l.map (fold g)) := by
  show g x l _ = _
  congr 1
  induction l with
  | nil => rfl
  | cons y l ih => show fold g y :: _ = _; rw [ih]; rfl
noncomputable def size (t : Tr α) : Nat := fold (fun _ _ b => 1 + b.sum) t
theorem size_mk (x : α) (l : List (Tr α)) : size (.mk x l) = 1 + (l.map size).sum := fold_mk _ x l
theorem size_pos (t : Tr α) : 0 < size t := by cases t; rw [size_mk]; omega
theorem size_at {x : α} {l : List (Tr α)} {i : Nat} {y : Tr α} (h : l[i]? = some y) : size y < size (.mk x l) := by
  rw [size_mk]
  have : size y ≤ (l.map size).sum := by
    induction l generalizing i with
    | nil => simp at h
    | cons z l ih =>
      cases i with
      | zero => simp at h; subst h; simp
      | succ i => have := ih (by simpa using h); simp; omega
  omega
theorem len_size {x : α} {l : List (Tr α)} : l.length < size (.mk x l) := by
  rw [size_mk]
  have : l.length ≤ (l.map size).sum := by
    induction l with
    | nil => simp
    | cons z l ih => have := size_pos z; simp; omega
  omega
noncomputable def all (p : α → Prop) (t : Tr α) : Prop := fold (fun x _ b => p x ∧ ∀ q ∈ b, q) t
theorem all_mk (p : α → Prop) (x : α) (l : List (Tr α)) : all p (.mk x l) ↔ p x ∧ ∀ y ∈ l, all p y := by
  unfold all
  rw [fold_mk]
  constructor
  · rintro ⟨h1, h2⟩; exact ⟨h1, fun y hy => h2 _ (List.mem_map_of_mem hy)⟩
  · rintro ⟨h1, h2⟩; refine ⟨h1, fun q hq => ?_⟩
    obtain ⟨y, hy, rfl⟩ := List.mem_map.1 hq
    exact h2 y hy
end Tr
structure Lab where
  k : Int
  n : Int
  s : ByteArray
  f : Int
  t : Int
def Lab.ok (x : Lab) : Prop := (-9223372036854775808 ≤ x.k ∧ x.k ≤ 9223372036854775807) ∧ (-9223372036854775808 ≤ x.n ∧ x.n ≤ 9223372036854775807) ∧ (-9223372036854775808 ≤ x.f ∧ x.f ≤ 9223372036854775807) ∧ (-9223372036854775808 ≤ x.t ∧ x.t ≤ 9223372036854775807)
abbrev VT := Tr Lab
noncomputable abbrev in64 (t : VT) : Prop := Tr.all Lab.ok t
abbrev I (z : Int) : PV := .lit (.int .i64 z)
abbrev Sx (s : ByteArray) : PV := .lit (.string s)
abbrev Bo (b : Bool) : PV := .lit (.bool b)
abbrev vI (z : Int) : AV := .v (.c (.pv (I z)))
abbrev vS (s : ByteArray) : AV := .v (.c (.pv (Sx s)))
abbrev vB (b : Bool) : AV := .v (.c (.pv (Bo b)))
noncomputable def tc (t : VT) : List PV := Tr.fold (fun x _ b => [I x.k, I x.n, Sx x.s, .sl 6 b, I x.f, I x.t]) t
theorem tc_mk (x : Lab) (l : List VT) : tc (.mk x l) = [I x.k, I x.n, Sx x.s, .sl 6 (l.map tc), I x.f, I x.t] := Tr.fold_mk _ x l
theorem tc_len (t : VT) : (tc t).length = 6 := by cases t; rw [tc_mk]; rfl
noncomputable def ta (t : VT) : List AC := (tc t).map .pv
theorem ta_mk (x : Lab) (l : List VT) : ta (.mk x l) = [.pv (I x.k), .pv (I x.n), .pv (Sx x.s), .pv (.sl 6 (l.map tc)), .pv (I x.f), .pv (I x.t)] := by unfold ta; rw [tc_mk]; rfl
noncomputable abbrev vT (t : VT) : AV := .v (.agg (ta t))
noncomputable abbrev vLs (l : List VT) : AV := .v (.c (.pv (.sl 6 (l.map tc))))
theorem ta_len (t : VT) : (ta t).length = 6 := by unfold ta; rw [List.length_map]; exact tc_len t
theorem mapM_pure (l : List PV) : (l.map AC.pv).mapM pureC = some l := by
  induction l with
  | nil => rfl
  | cons p l ih => rw [List.map_cons, List.mapM_cons, ih]; rfl
theorem ta_pure (t : VT) : (ta t).mapM pureC = some (tc t) := mapM_pure _
theorem fit_pure {n : Nat} {ρ : Nat → Nat} (l : List PV) : fitCs n ρ (l.map AC.pv) (l.map AC.pv) := by
  induction l with
  | nil => trivial
  | cons p l ih => exact ⟨fitP_refl p, ih⟩
theorem fit_ta {n : Nat} {ρ : Nat → Nat} (t : VT) : fitCs n ρ (ta t) (ta t) := fit_pure _
theorem ta_take (t : VT) : (ta t).take 6 = ta t := List.take_of_length_le (by rw [ta_len]; exact Nat.le_refl _)
attribute [simp] ta_mk tc_mk ta_len tc_len ta_pure fit_ta fit_pure ta_take
theorem ren_pure (ρ : Nat → Nat) (l : List PV) : (l.map AC.pv).map (AC.ren ρ) = l.map AC.pv := by
  rw [List.map_map]; rfl
theorem vT_ren (t : VT) (ρ : Nat → Nat) : (vT t).ren ρ = vT t := by
  show AV.v (.agg (((tc t).map AC.pv).map (AC.ren ρ))) = _
  rw [ren_pure]; rfl
end Go.Proofs.YtlkggpjdaaglmaaGreatDoor.vt
end
section
namespace Go.Proofs.YtlkggpjdaaglmaaGreatDoor.vt
open Go.Proofs.YtlkggpjdaaglmaaGreatDoor.am
set_option linter.unusedVariables false
noncomputable def eqv (p : Lab → Lab → Bool) (t : VT) : VT → Bool := Tr.fold (fun x l bs u => p x u.lab && decide (l.length = u.kids.length) && (bs.zip u.kids).all (fun q => q.1 q.2)) t
def zipA (f : VT → VT → Bool) (l m : List VT) (k : Nat) : Bool := ((l.zip m).take k).all (fun q => f q.1 q.2)
theorem zipA_zero (f : VT → VT → Bool) (l m : List VT) : zipA f l m 0 = true := by simp [zipA]
theorem zipA_succ {f : VT → VT → Bool} {l m : List VT} {k : Nat} {a b : VT} (ha : l[k]? = some a) (hb : m[k]? = some b) : zipA f l m (k + 1) = (zipA f l m k && f a b) := by
  unfold zipA
  rw [List.take_add_one, show (l.zip m)[k]? = some (a, b) from List.getElem?_zip_eq_some.2 ⟨ha, hb⟩]
  simp [List.all_append]
theorem zipA_mono {f : VT → VT → Bool} {l m : List VT} {k : Nat} (j : Nat) (h : zipA f l m k = false) : zipA f l m (k + j) = false := by
  unfold zipA at h ⊢
  rw [List.all_eq_false] at h ⊢
  obtain ⟨q, h1, h2⟩ := h
  refine ⟨q, ?_, h2⟩
  have : (l.zip m).take k <+: (l.zip m).take (k + j) := List.take_prefix_take_left (by omega)
  exact this.subset h1
theorem zip_map_all {α β : Type} (F : α → β → Bool) : ∀ (l : List α) (m : List β), ((l.map F).zip m).all (fun q => q.1 q.2) = (l.zip m).all (fun q => F q.1 q.2)
  | [], m => rfl
  | a :: l, [] => rfl
  | a :: l, b :: m => by simp only [List.map_cons, List.zip_cons_cons, List.all_cons, zip_map_all F l m]
theorem eqv_mk (p : Lab → Lab → Bool) (x y : Lab) (l m : List VT) : eqv p (.mk x l) (.mk y m) = (p x y && decide (l.length = m.length) && zipA (eqv p) l m l.length) := by
  have e : zipA (eqv p) l m l.length = (l.zip m).all (fun q => eqv p q.1 q.2) := by
    unfold zipA
    rw [List.take_of_length_le (l := l.zip m) (by rw [List.length_zip]; exact Nat.min_le_left _ _)]
  rw [e]
  conv => lhs; unfold eqv
  rw [Tr.fold_mk, zip_map_all]
  rfl
def pS (x y : Lab) : Bool := decide (x.k = y.k) && decide (x.n = y.n) && decide (x.s = y.s)
noncomputable abbrev same (t u : VT) : Bool := eqv pS t u
end Go.Proofs.YtlkggpjdaaglmaaGreatDoor.vt
end
section
namespace Go.Proofs.YtlkggpjdaaglmaaGreatDoor.vt
open Go.Proofs.YtlkggpjdaaglmaaGreatDoor.am
set_option linter.unusedVariables false
structure Tok where
  k : Int
  n : Int
  s : ByteArray
  f : Int
  t : Int
def kc (x : Tok) : List PV := [I x.k, I x.n, Sx x.s, I x.f, I x.t]
abbrev vK (x : Tok) : AV := .v (.agg [.pv (I x.k), .pv (I x.n), .pv (Sx x.s), .pv (I x.f), .pv (I x.t)])
abbrev vKs (l : List Tok) : AV := .v (.c (.pv (.sl 5 (l.map kc))))
def endK : Tok := ⟨5, 0, ⟨#[]⟩, 0, 0⟩
def zK : Tok := ⟨0, 0, ⟨#[]⟩, 0, 0⟩
def nxt (ts : List Tok) (i : Nat) : Tok := match ts[i]? with | some x => x | none => endK
theorem nxt_some {ts : List Tok} {i : Nat} {x : Tok} (h : ts[i]? = some x) : nxt ts i = x := by unfold nxt; rw [h]
theorem nxt_none {ts : List Tok} {i : Nat} (h : ts.length ≤ i) : nxt ts i = endK := by unfold nxt; rw [List.getElem?_eq_none h]
abbrev rd (ts : List Tok) (i : Nat) (e : Int) : AO := .box [.pv (.sl 5 (ts.map kc)), .pv (I i), .pv (I e)]
def quo (s : ByteArray) : Int := match s.data.toList with | c :: _ => if 97 ≤ c.toNat ∧ c.toNat ≤ 122 then 3 else 4 | [] => 4
def isK (s : ByteArray) (x : Tok) : Bool := decide (x.k = quo s) && decide (x.s = s)
theorem quo_34 (s : ByteArray) : quo s = 3 ∨ quo s = 4 := by
  unfold quo; split
  · split
    · exact .inl rfl
    · exact .inr rfl
  · exact .inr rfl
theorem isK_end (s : ByteArray) : isK s endK = false := by
  unfold isK endK
  rcases quo_34 s with h | h <;> rw [h] <;> rfl
theorem isK_at {s : ByteArray} {ts : List Tok} {i : Nat} (h : isK s (nxt ts i) = true) : ∃ x, ts[i]? = some x ∧ isK s x = true := by
  unfold nxt at h
  cases hx : ts[i]? with
  | none => rw [hx] at h; dsimp only at h; rw [isK_end] at h; cases h
  | some x => rw [hx] at h; exact ⟨x, rfl, h⟩
def er (e : Int) : Int := if e = 0 then 6 else e
def frT (ts : List Tok) (i : Nat) : Int := (nxt ts i).f
def toT (ts : List Tok) (i : Nat) : Int := (nxt ts i).t
abbrev wInt : ByteArray := ⟨#[105, 110, 116]⟩
abbrev wBool : ByteArray := ⟨#[98, 111, 111, 108]⟩
abbrev sOpen : ByteArray := ⟨#[91]⟩
abbrev sShut : ByteArray := ⟨#[93]⟩
def z0 : VT := .mk ⟨0, 0, ⟨#[]⟩, 0, 0⟩ []
def tyG (ts : List Tok) : Nat → Nat → VT × Nat × Int
  | 0, i => (z0, i, 6)
  | n + 1, i =>
    if isK wInt (nxt ts i) = true then (.mk ⟨1, 0, ⟨#[]⟩, frT ts i, toT ts i⟩ [], i + 1, 0)
    else if isK wBool (nxt ts i) = true then (.mk ⟨2, 0, ⟨#[]⟩, frT ts i, toT ts i⟩ [], i + 1, 0)
    else if isK sOpen (nxt ts i) = true then
      if (nxt ts (i + 1)).k = 2 then
        if isK sShut (nxt ts (i + 2)) = true then
          if (tyG ts n (i + 3)).2.2 = 0 then (.mk ⟨3, (nxt ts (i + 1)).n, ⟨#[]⟩, frT ts i, toT ts ((tyG ts n (i + 3)).2.1 - 1)⟩ [(tyG ts n (i + 3)).1], (tyG ts n (i + 3)).2.1, 0)
          else tyG ts n (i + 3)
        else (z0, i + 2, 6)
      else (z0, i + 1, 6)
    else if (nxt ts i).k = 1 then (.mk ⟨4, 0, (nxt ts i).s, frT ts i, toT ts i⟩ [], i + 1, 0)
    else (z0, i, 6)
theorem tyG_ok (ts : List Tok) : ∀ n i, ((tyG ts n i).2.2 = 0 → i < (tyG ts n i).2.1 ∧ (tyG ts n i).2.1 ≤ ts.length) ∧ ((tyG ts n i).2.2 ≠ 0 → (tyG ts n i).2.2 = 6 ∧ (tyG ts n i).1 = z0) ∧ (i ≤ ts.length → (tyG ts n i).2.1 ≤ ts.length) ∧ (tyG ts n i).1.size ≤ n + 1 := by
  have hlt : ∀ {s : ByteArray} {i : Nat}, isK s (nxt ts i) = true → i < ts.length := fun {s i} h => by
    obtain ⟨x, h1, _⟩ := isK_at h
    exact (List.getElem?_eq_some_iff.1 h1).1
  have hlk : ∀ {k : Int} {i : Nat}, (nxt ts i).k = k → k ≠ 5 → i < ts.length := fun {k i} h hk => by
    rcases Nat.lt_or_ge i ts.length with h1 | h1
    · exact h1
    · rw [nxt_none h1] at h; exact absurd h.symm hk
  intro n
  induction n with
  | zero => intro i; simp [tyG, z0, Tr.size_mk]
  | succ n ih =>
    intro i
    unfold tyG
    split
    · rename_i h; have := hlt h; simp [Tr.size_mk]; omega
    · split
      · rename_i h; have := hlt h; simp [Tr.size_mk]; omega
      · split
        · rename_i h0
          have h0 := hlt h0
          split
          · rename_i h1
            have h1 := hlk h1 (by omega)
            split
            · rename_i h2
              have h2 := hlt h2
              obtain ⟨a1, a2, a3, a4⟩ := ih (i + 3)
              split
              · rename_i h3
                have := a1 h3
                simp [Tr.size_mk]; omega
              · rename_i h3
                exact ⟨fun h => absurd h h3, fun h => a2 h, fun h => a3 (by omega), by omega⟩
            · simp [z0, Tr.size_mk]; omega
          · simp [z0, Tr.size_mk]; omega
        · split
          · rename_i h; have := hlk h (by omega); simp [Tr.size_mk]; omega
          · simp [z0, Tr.size_mk]
end Go.Proofs.YtlkggpjdaaglmaaGreatDoor.vt
end
section
namespace Go.Proofs.YtlkggpjdaaglmaaGreatDoor.vt
open Go.Proofs.YtlkggpjdaaglmaaGreatDoor.am
set_option linter.unusedVariables false
abbrev Got := VT × Nat × Int
def opS (s : ByteArray) : Int × Nat :=
  if s = ⟨#[124, 124]⟩ then (1, 1) else if s = ⟨#[38, 38]⟩ then (2, 2) else if s = ⟨#[61, 61]⟩ then (3, 3) else if s = ⟨#[33, 61]⟩ then (4, 3) else if s = ⟨#[60]⟩ then (5, 3) else if s = ⟨#[60, 61]⟩ then (6, 3)
  else if s = ⟨#[62]⟩ then (7, 3) else if s = ⟨#[62, 61]⟩ then (8, 3) else if s = ⟨#[43]⟩ then (9, 4) else if s = ⟨#[45]⟩ then (10, 4) else if s = ⟨#[42]⟩ then (11, 5) else if s = ⟨#[47]⟩ then (12, 5) else if s = ⟨#[37]⟩ then (13, 5) else (0, 6)
def opK (x : Tok) : Int × Nat := if x.k = 4 then opS x.s else (0, 6)
def mk7 (ts : List Tok) (a b : Nat) (k n : Int) (s : ByteArray) (l : List VT) : Got := (.mk ⟨k, n, s, frT ts a, toT ts (b - 1)⟩ l, b, 0)
def bad7 (i : Nat) : Got := (z0, i, 6)
abbrev sParO : ByteArray := ⟨#[40]⟩
abbrev sParS : ByteArray := ⟨#[41]⟩
abbrev sDot : ByteArray := ⟨#[46]⟩
abbrev sCom : ByteArray := ⟨#[44]⟩
abbrev sAt : ByteArray := ⟨#[64]⟩
abbrev sMin : ByteArray := ⟨#[45]⟩
abbrev sNot : ByteArray := ⟨#[33]⟩
abbrev wTrue : ByteArray := ⟨#[116, 114, 117, 101]⟩
abbrev wFals : ByteArray := ⟨#[102, 97, 108, 115, 101]⟩
abbrev wRead : ByteArray := ⟨#[114, 101, 97, 100]⟩
abbrev wNew : ByteArray := ⟨#[110, 101, 119]⟩
section
variable (ts : List Tok)
def lpL (P : Nat → Got) (l a : Nat) : Nat → Bool → Got → Got
  | 0, _, x => x
  | m + 1, t, x => if x.2.2 ≠ 0 then x else if (opK (nxt ts x.2.1)).2 ≠ l ∨ (l = 3 ∧ t = true) then x
      else if (P (x.2.1 + 1)).2.2 ≠ 0 then P (x.2.1 + 1)
      else lpL P l a m true (mk7 ts a (P (x.2.1 + 1)).2.1 10 (opK (nxt ts x.2.1)).1 ⟨#[]⟩ [x.1, (P (x.2.1 + 1)).1])
def lpP (E : Nat → Got) (a : Nat) : Nat → Got → Got
  | 0, x => x
  | m + 1, x => if x.2.2 ≠ 0 then x else if isK sOpen (nxt ts x.2.1) = true then
        if (E (x.2.1 + 1)).2.2 ≠ 0 then E (x.2.1 + 1)
        else if isK sShut (nxt ts (E (x.2.1 + 1)).2.1) = false then bad7 (E (x.2.1 + 1)).2.1
        else lpP E a m (mk7 ts a ((E (x.2.1 + 1)).2.1 + 1) 12 0 ⟨#[]⟩ [x.1, (E (x.2.1 + 1)).1])
      else if isK sDot (nxt ts x.2.1) = true then
        if (nxt ts (x.2.1 + 1)).k ≠ 1 then bad7 (x.2.1 + 1) else lpP E a m (mk7 ts a (x.2.1 + 2) 13 0 (nxt ts (x.2.1 + 1)).s [x.1])
      else x
def lpC (E : Nat → Got) : Nat → Nat → List VT → List VT × Nat × Int
  | 0, i, acc => (acc, i, 6)
  | m + 1, i, acc => if (E i).2.2 ≠ 0 then (acc, (E i).2.1, (E i).2.2) else if isK sCom (nxt ts (E i).2.1) = false then (acc ++ [(E i).1], (E i).2.1, 0) else lpC E m ((E i).2.1 + 1) (acc ++ [(E i).1])
def cloG (E : Nat → Got) (o : Nat) (few : Bool) (fs ls : ByteArray) : List VT × Nat × Int :=
  if isK fs (nxt ts o) = false then ([], o, 6) else if few = true ∧ isK ls (nxt ts (o + 1)) = true then ([], o + 2, 0)
  else if (lpC ts E (ts.length + 1) (o + 1) []).2.2 ≠ 0 then lpC ts E (ts.length + 1) (o + 1) []
  else if isK ls (nxt ts (lpC ts E (ts.length + 1) (o + 1) []).2.1) = false then ((lpC ts E (ts.length + 1) (o + 1) []).1, (lpC ts E (ts.length + 1) (o + 1) []).2.1, 6)
  else ((lpC ts E (ts.length + 1) (o + 1) []).1, (lpC ts E (ts.length + 1) (o + 1) []).2.1 + 1, 0)
def finC (i : Nat) (k : Int) (s : ByteArray) (c : List VT × Nat × Int) : Got := if c.2.2 ≠ 0 then (z0, c.2.1, c.2.2) else mk7 ts i c.2.1 k 0 s c.1
def calG (E : Nat → Got) (i : Nat) : Got :=
  if (nxt ts i).k = 1 then finC ts i 16 (nxt ts i).s (cloG ts E (i + 1) true sParO sParS)
  else if isK sOpen (nxt ts i) = true then finC ts i 14 ⟨#[]⟩ (cloG ts E i false sOpen sShut)
  else if isK sAt (nxt ts i) = true then if (nxt ts (i + 1)).k ≠ 1 then bad7 (i + 1) else finC ts i 17 (nxt ts (i + 1)).s (cloG ts E (i + 2) true sParO sParS)
  else if isK wNew (nxt ts i) = true then if (nxt ts (i + 1)).k ≠ 1 then bad7 (i + 1) else finC ts i 15 (nxt ts (i + 1)).s (cloG ts E (i + 2) false sParO sParS)
  else bad7 i
def atoG (E : Nat → Got) (i : Nat) : Got :=
  if (nxt ts i).k = 2 then mk7 ts i (i + 1) 5 (nxt ts i).n ⟨#[]⟩ []
  else if isK wTrue (nxt ts i) = true then mk7 ts i (i + 1) 6 1 ⟨#[]⟩ []
  else if isK wFals (nxt ts i) = true then mk7 ts i (i + 1) 6 0 ⟨#[]⟩ []
  else if isK wRead (nxt ts i) = true then mk7 ts i (i + 1) 18 0 ⟨#[]⟩ []
  else if (nxt ts i).k = 1 ∧ isK sParO (nxt ts (i + 1)) = false then mk7 ts i (i + 1) 19 0 (nxt ts i).s []
  else if isK sParO (nxt ts i) = true then
    if (E (i + 1)).2.2 ≠ 0 then E (i + 1) else if isK sParS (nxt ts (E (i + 1)).2.1) = false then bad7 (E (i + 1)).2.1 else ((E (i + 1)).1, (E (i + 1)).2.1 + 1, 0)
  else calG ts E i
def unN (i : Nat) : Int := if isK sNot (nxt ts i) = true then 2 else if isK sMin (nxt ts i) = true then 1 else 0
def bG (R : Nat → Nat → Got) (w i : Nat) : Got :=
  if w ≤ 5 then lpL ts (R (w + 1)) w i (ts.length + 1) false (R (w + 1) i)
  else if w = 6 then
    if unN ts i = 0 then R 7 i else if (R 6 (i + 1)).2.2 ≠ 0 then R 6 (i + 1) else mk7 ts i (R 6 (i + 1)).2.1 11 (unN ts i) ⟨#[]⟩ [(R 6 (i + 1)).1]
  else if w = 7 then lpP ts (R 1) i (ts.length + 1) (R 8 i)
  else atoG ts (R 1) i
def pG : Nat → Nat → Nat → Got
  | 0, _, i => bad7 i
  | n + 1, w, i => bG ts (pG n) w i
end
section
variable {ts : List Tok}
structure OkG (ts : List Tok) (i : Nat) (x : Got) : Prop where
  yes : x.2.2 = 0 → i < x.2.1 ∧ x.2.1 ≤ ts.length
  no : x.2.2 ≠ 0 → x.2.2 = 6 ∧ x.1 = z0
  le : i ≤ ts.length → i ≤ x.2.1 ∧ x.2.1 ≤ ts.length
theorem isK_lt {s : ByteArray} {i : Nat} (h : isK s (nxt ts i) = true) : i < ts.length := by
  obtain ⟨x, h1, _⟩ := isK_at h
  exact (List.getElem?_eq_some_iff.1 h1).1
theorem k_lt {k : Int} {i : Nat} (h : (nxt ts i).k = k) (hk : k ≠ 5) : i < ts.length := by
  rcases Nat.lt_or_ge i ts.length with h1 | h1
  · exact h1
  · rw [nxt_none h1] at h; exact absurd h.symm hk
theorem op_lt {l i : Nat} (h : (opK (nxt ts i)).2 = l) (hl : l ≤ 5) : i < ts.length := by
  rcases Nat.lt_or_ge i ts.length with h1 | h1
  · exact h1
  · rw [nxt_none h1] at h
    have : (opK endK).2 = 6 := rfl
    omega
theorem ok_bad {i j : Nat} (h : i ≤ ts.length → i ≤ j ∧ j ≤ ts.length) : OkG ts i (bad7 j) := ⟨fun h => by simp [bad7] at h, fun _ => ⟨rfl, rfl⟩, h⟩
theorem ok_mk {i b : Nat} {k n : Int} {s : ByteArray} {l : List VT} (h : i < b) (hb : b ≤ ts.length) : OkG ts i (mk7 ts i b k n s l) := ⟨fun _ => ⟨h, hb⟩, fun h => absurd rfl h, fun _ => ⟨Nat.le_of_lt h, hb⟩⟩
theorem lpL_ok {P : Nat → Got} {l a : Nat} (hl : l ≤ 5) (hP : ∀ j, j ≤ ts.length → OkG ts j (P j)) : ∀ (m : Nat) (t : Bool) (x : Got), OkG ts a x → OkG ts a (lpL ts P l a m t x)
  | 0, t, x, hx => hx
  | m + 1, t, x, hx => by
    unfold lpL
    split
    · exact hx
    · rename_i h0
      have h0 : x.2.2 = 0 := by simpa using h0
      split
      · exact hx
      · rename_i h1
        have h1 : (opK (nxt ts x.2.1)).2 = l := by simpa using (not_or.1 h1).1
        have hlt := op_lt h1 hl
        have hp := hP (x.2.1 + 1) (by omega)
        have hy := hx.yes h0
        split
        · rename_i h2
          exact ⟨fun h => absurd h h2, hp.no, fun _ => by have := hp.le (by omega); omega⟩
        · rename_i h2
          have h2 : (P (x.2.1 + 1)).2.2 = 0 := by simpa using h2
          have := hp.yes h2
          exact lpL_ok hl hP m true _ (ok_mk (by omega) this.2)
theorem lpL_congr {P P' : Nat → Got} {l a : Nat} (hl : l ≤ 5) (hP : ∀ j, j ≤ ts.length → OkG ts j (P j)) (he : ∀ j, a < j → j ≤ ts.length → P j = P' j) : ∀ (m : Nat) (t : Bool) (x : Got), OkG ts a x → lpL ts P l a m t x = lpL ts P' l a m t x
  | 0, t, x, hx => rfl
  | m + 1, t, x, hx => by
    unfold lpL
    split
    · rfl
    · rename_i h0
      have h0 : x.2.2 = 0 := by simpa using h0
      split
      · rfl
      · rename_i h1
        have h1 : (opK (nxt ts x.2.1)).2 = l := by simpa using (not_or.1 h1).1
        have hlt := op_lt h1 hl
        have hy := hx.yes h0
        have hp := hP (x.2.1 + 1) (by omega)
        rw [← he (x.2.1 + 1) (by omega) (by omega)]
        split
        · rfl
        · rename_i h2
          have h2 : (P (x.2.1 + 1)).2.2 = 0 := by simpa using h2
          have := hp.yes h2
          exact lpL_congr hl hP he m true _ (ok_mk (by omega) this.2)
theorem lpP_ok {E : Nat → Got} {a : Nat} (hE : ∀ j, j ≤ ts.length → OkG ts j (E j)) : ∀ (m : Nat) (x : Got), OkG ts a x → OkG ts a (lpP ts E a m x)
  | 0, x, hx => hx
  | m + 1, x, hx => by
    unfold lpP
    split
    · exact hx
    · rename_i h0
      have h0 : x.2.2 = 0 := by simpa using h0
      have hy := hx.yes h0
      split
      · rename_i h1
        have hlt := isK_lt h1
        have hp := hE (x.2.1 + 1) (by omega)
        split
        · rename_i h2
          exact ⟨fun h => absurd h h2, hp.no, fun _ => by have := hp.le (by omega); omega⟩
        · rename_i h2
          have h2 : (E (x.2.1 + 1)).2.2 = 0 := by simpa using h2
          have hyy := hp.yes h2
          split
          · exact ok_bad (fun _ => by omega)
          · rename_i h3
            have := isK_lt (s := sShut) (ts := ts) (by simpa using h3)
            exact lpP_ok hE m _ (ok_mk (by omega) (by omega))
      · split
        · rename_i h1
          have hlt := isK_lt h1
          split
          · exact ok_bad (fun _ => by omega)
          · rename_i h3
            have := k_lt (ts := ts) (k := 1) (by simpa using h3) (by decide)
            exact lpP_ok hE m _ (ok_mk (by omega) (by omega))
        · exact hx
theorem lpP_congr {E E' : Nat → Got} {a : Nat} (hE : ∀ j, j ≤ ts.length → OkG ts j (E j)) (he : ∀ j, a < j → j ≤ ts.length → E j = E' j) : ∀ (m : Nat) (x : Got), OkG ts a x → lpP ts E a m x = lpP ts E' a m x
  | 0, x, hx => rfl
  | m + 1, x, hx => by
    unfold lpP
    split
    · rfl
    · rename_i h0
      have h0 : x.2.2 = 0 := by simpa using h0
      have hy := hx.yes h0
      split
      · rename_i h1
        have hlt := isK_lt h1
        have hp := hE (x.2.1 + 1) (by omega)
        rw [← he (x.2.1 + 1) (by omega) (by omega)]
        split
        · rfl
        · rename_i h2
          have h2 : (E (x.2.1 + 1)).2.2 = 0 := by simpa using h2
          have hyy := hp.yes h2
          split
          · rfl
          · rename_i h3
            have := isK_lt (s := sShut) (ts := ts) (by simpa using h3)
            exact lpP_congr hE he m _ (ok_mk (by omega) (by omega))
      · split
        · rename_i h1
          have hlt := isK_lt h1
          split
          · rfl
          · rename_i h3
            have := k_lt (ts := ts) (k := 1) (by simpa using h3) (by decide)
            exact lpP_congr hE he m _ (ok_mk (by omega) (by omega))
        · rfl
structure OkC (ts : List Tok) (i : Nat) (x : List VT × Nat × Int) : Prop where
  le : i ≤ x.2.1 ∧ x.2.1 ≤ ts.length
  yes : x.2.2 = 0 → i < x.2.1
  no : x.2.2 ≠ 0 → x.2.2 = 6
theorem lpC_ok {E : Nat → Got} (hE : ∀ j, j ≤ ts.length → OkG ts j (E j)) : ∀ (m i : Nat) (acc : List VT), i ≤ ts.length → OkC ts i (lpC ts E m i acc)
  | 0, i, acc, hi => ⟨⟨Nat.le_refl _, hi⟩, fun h => by simp [lpC] at h, fun _ => rfl⟩
  | m + 1, i, acc, hi => by
    unfold lpC
    have hp := hE i hi
    split
    · rename_i h; exact ⟨hp.le hi, fun h' => absurd h' h, fun _ => (hp.no h).1⟩
    · rename_i h
      have h : (E i).2.2 = 0 := by simpa using h
      have hy := hp.yes h
      split
      · exact ⟨⟨by dsimp only; omega, hy.2⟩, fun _ => hy.1, fun h => absurd rfl h⟩
      · rename_i h3
        have hlt := isK_lt (s := sCom) (ts := ts) (by simpa using h3)
        have := lpC_ok hE m ((E i).2.1 + 1) (acc ++ [(E i).1]) (by omega)
        exact ⟨⟨by have := this.le; omega, this.le.2⟩, fun h => by have := this.yes h; omega, this.no⟩
theorem lpC_congr {E E' : Nat → Got} {a : Nat} (hE : ∀ j, j ≤ ts.length → OkG ts j (E j)) (he : ∀ j, a < j → j ≤ ts.length → E j = E' j) : ∀ (m i : Nat) (acc : List VT), a < i → i ≤ ts.length → lpC ts E m i acc = lpC ts E' m i acc
  | 0, i, acc, _, _ => rfl
  | m + 1, i, acc, ha, hi => by
    unfold lpC
    rw [← he i ha hi]
    split
    · rfl
    · rename_i h
      have h : (E i).2.2 = 0 := by simpa using h
      have hy := (hE i hi).yes h
      split
      · rfl
      · rename_i h3
        have hlt := isK_lt (s := sCom) (ts := ts) (by simpa using h3)
        exact lpC_congr hE he m _ _ (by omega) (by omega)
theorem cloG_ok {E : Nat → Got} (hE : ∀ j, j ≤ ts.length → OkG ts j (E j)) {o : Nat} (few : Bool) (fs ls : ByteArray) (ho : o ≤ ts.length) : OkC ts o (cloG ts E o few fs ls) := by
  unfold cloG
  split
  · exact ⟨⟨Nat.le_refl _, ho⟩, fun h => by simp at h, fun _ => rfl⟩
  · rename_i h0
    have h0 := isK_lt (s := fs) (ts := ts) (by simpa using h0)
    split
    · rename_i h1
      have h1 := isK_lt h1.2
      exact ⟨⟨by dsimp only; omega, by dsimp only; omega⟩, fun _ => by dsimp only; omega, fun h => absurd rfl h⟩
    · have hc := lpC_ok hE (ts.length + 1) (o + 1) [] (by omega)
      split
      · exact ⟨⟨by have := hc.le; omega, hc.le.2⟩, fun h => by have := hc.yes h; omega, hc.no⟩
      · rename_i h2
        split
        · exact ⟨⟨by have := hc.le; dsimp only; omega, hc.le.2⟩, fun h => by simp at h, fun _ => rfl⟩
        · rename_i h3
          have := isK_lt (s := ls) (ts := ts) (by simpa using h3)
          exact ⟨⟨by have := hc.le; dsimp only; omega, by dsimp only; omega⟩, fun _ => by have := hc.le; dsimp only; omega, fun h => absurd rfl h⟩
theorem cloG_congr {E E' : Nat → Got} {a : Nat} (hE : ∀ j, j ≤ ts.length → OkG ts j (E j)) (he : ∀ j, a < j → j ≤ ts.length → E j = E' j) {o : Nat} (few : Bool) (fs ls : ByteArray) (ho : a ≤ o) : cloG ts E o few fs ls = cloG ts E' o few fs ls := by
  unfold cloG
  split
  · rfl
  · rename_i h0
    have h0 := isK_lt (s := fs) (ts := ts) (by simpa using h0)
    rw [lpC_congr hE he (ts.length + 1) (o + 1) [] (by omega) (by omega)]
theorem fin_ok {i o : Nat} {k : Int} {s : ByteArray} {c : List VT × Nat × Int} (h : OkC ts o c) (ho : i ≤ o) : OkG ts i (finC ts i k s c) := by
  unfold finC
  split
  · rename_i h0; exact ⟨fun h' => absurd h' h0, fun _ => ⟨h.no h0, rfl⟩, fun _ => by have := h.le; dsimp only; omega⟩
  · rename_i h0
    exact ok_mk (by have := h.yes (by simpa using h0); omega) h.le.2
theorem calG_ok {E : Nat → Got} (hE : ∀ j, j ≤ ts.length → OkG ts j (E j)) (i : Nat) (hi : i ≤ ts.length) : OkG ts i (calG ts E i) := by
  unfold calG
  split
  · rename_i h; have := k_lt h (by decide); exact fin_ok (cloG_ok hE true sParO sParS (by omega)) (by omega)
  · split
    · rename_i h; have := isK_lt h; exact fin_ok (cloG_ok hE false sOpen sShut (by omega)) (by omega)
    · split
      · rename_i h; have := isK_lt h
        split
        · exact ok_bad (fun _ => by omega)
        · rename_i h2; have := k_lt (ts := ts) (k := 1) (by simpa using h2) (by decide)
          exact fin_ok (cloG_ok hE true sParO sParS (by omega)) (by omega)
      · split
        · rename_i h; have := isK_lt h
          split
          · exact ok_bad (fun _ => by omega)
          · rename_i h2; have := k_lt (ts := ts) (k := 1) (by simpa using h2) (by decide)
            exact fin_ok (cloG_ok hE false sParO sParS (by omega)) (by omega)
        · exact ok_bad (fun _ => by omega)
theorem calG_congr {E E' : Nat → Got} {i : Nat} (hE : ∀ j, j ≤ ts.length → OkG ts j (E j)) (he : ∀ j, i < j → j ≤ ts.length → E j = E' j) : calG ts E i = calG ts E' i := by
  unfold calG
  rw [cloG_congr hE he true sParO sParS (show i ≤ i + 1 by omega), cloG_congr hE he false sOpen sShut (Nat.le_refl i), cloG_congr hE he true sParO sParS (show i ≤ i + 2 by omega), cloG_congr hE he false sParO sParS (show i ≤ i + 2 by omega)]
theorem atoG_ok {E : Nat → Got} (hE : ∀ j, j ≤ ts.length → OkG ts j (E j)) (i : Nat) (hi : i ≤ ts.length) : OkG ts i (atoG ts E i) := by
  unfold atoG
  split
  · rename_i h; have := k_lt h (by decide); exact ok_mk (by omega) (by omega)
  split
  · rename_i h; have := isK_lt h; exact ok_mk (by omega) (by omega)
  split
  · rename_i h; have := isK_lt h; exact ok_mk (by omega) (by omega)
  split
  · rename_i h; have := isK_lt h; exact ok_mk (by omega) (by omega)
  split
  · rename_i h; have := k_lt h.1 (by decide); exact ok_mk (by omega) (by omega)
  split
  · rename_i h
    have := isK_lt h
    have hp := hE (i + 1) (by omega)
    split
    · rename_i h2; exact ⟨fun h => absurd h h2, hp.no, fun _ => by have := hp.le (by omega); omega⟩
    · rename_i h2
      have hy := hp.yes (by simpa using h2)
      split
      · exact ok_bad (fun _ => by omega)
      · rename_i h3
        have := isK_lt (s := sParS) (ts := ts) (by simpa using h3)
        exact ⟨fun _ => by dsimp only; omega, fun h => absurd rfl h, fun _ => by dsimp only; omega⟩
  · exact calG_ok hE i hi
theorem atoG_congr {E E' : Nat → Got} {i : Nat} (hE : ∀ j, j ≤ ts.length → OkG ts j (E j)) (he : ∀ j, i < j → j ≤ ts.length → E j = E' j) : atoG ts E i = atoG ts E' i := by
  unfold atoG
  rw [calG_congr hE he]
  by_cases h : isK sParO (nxt ts i) = true
  · have := isK_lt h
    rw [he (i + 1) (by omega) (by omega)]
  · simp only [h, if_false, Bool.false_eq_true]
theorem bG_ok {R : Nat → Nat → Got} (hR : ∀ w j, j ≤ ts.length → OkG ts j (R w j)) (w i : Nat) (hi : i ≤ ts.length) : OkG ts i (bG ts R w i) := by
  unfold bG
  split
  · rename_i h; exact lpL_ok h (hR _) _ _ _ (hR _ i hi)
  split
  · split
    · exact hR 7 i hi
    · rename_i h
      have hlt : i < ts.length := by
        unfold unN at h
        by_cases h1 : isK sNot (nxt ts i) = true
        · exact isK_lt h1
        · by_cases h2 : isK sMin (nxt ts i) = true
          · exact isK_lt h2
          · simp [h1, h2] at h
      have hp := hR 6 (i + 1) (by omega)
      split
      · rename_i h2; exact ⟨fun h => absurd h h2, hp.no, fun _ => by have := hp.le (by omega); omega⟩
      · rename_i h2
        have hy := hp.yes (by simpa using h2)
        exact ok_mk (by omega) hy.2
  split
  · exact lpP_ok (hR 1) _ _ (hR 8 i hi)
  · exact atoG_ok (hR 1) i hi
theorem pG_ok : ∀ (n w i : Nat), i ≤ ts.length → OkG ts i (pG ts n w i)
  | 0, w, i, hi => ok_bad (fun _ => ⟨Nat.le_refl _, hi⟩)
  | n + 1, w, i, hi => bG_ok (pG_ok n) w i hi
def me (ts : List Tok) (w i : Nat) : Nat := 9 * (ts.length - i) + (9 - w)
theorem bG_congr {R R' : Nat → Nat → Got} (hR : ∀ w j, j ≤ ts.length → OkG ts j (R w j)) {w i : Nat} (hi : i ≤ ts.length) (hw : w ≤ 8) (he : ∀ w' j, w' ≤ 8 → 1 ≤ w' → j ≤ ts.length → me ts w' j < me ts w i → R w' j = R' w' j) : bG ts R w i = bG ts R' w i := by
  have far : ∀ w' j, w' ≤ 8 → 1 ≤ w' → i < j → j ≤ ts.length → R w' j = R' w' j := fun w' j h0 h1 h2 h3 => he w' j h0 h1 h3 (by unfold me; omega)
  unfold bG
  split
  · rename_i h
    rw [lpL_congr h (hR _) (fun j h1 h2 => far (w + 1) j (by omega) (by omega) h1 h2) _ _ _ (hR _ i hi), he (w + 1) i (by omega) (by omega) hi (by unfold me; omega)]
  split
  · rename_i h
    subst h
    rw [he 7 i (by omega) (by omega) hi (by unfold me; omega)]
    split
    · rfl
    · rename_i h
      have hlt : i < ts.length := by
        unfold unN at h
        by_cases h1 : isK sNot (nxt ts i) = true
        · exact isK_lt h1
        · by_cases h2 : isK sMin (nxt ts i) = true
          · exact isK_lt h2
          · simp [h1, h2] at h
      rw [far 6 (i + 1) (by omega) (by omega) (by omega) (by omega)]
  split
  · rename_i h
    subst h
    rw [lpP_congr (hR 1) (fun j h1 h2 => far 1 j (by omega) (by omega) h1 h2) _ _ (hR 8 i hi), he 8 i (by omega) (by omega) hi (by unfold me; omega)]
  · exact atoG_congr (hR 1) (fun j h1 h2 => far 1 j (by omega) (by omega) h1 h2)
theorem pG_irr : ∀ (n n' w i : Nat), i ≤ ts.length → 1 ≤ w → w ≤ 8 → me ts w i < n → me ts w i < n' → pG ts n w i = pG ts n' w i
  | 0, _, _, _, _, _, _, h, _ => by omega
  | _ + 1, 0, _, _, _, _, _, _, h => by omega
  | n + 1, n' + 1, w, i, hi, h1, hw, hn, hn' => by
    show bG ts (pG ts n) w i = bG ts (pG ts n') w i
    exact bG_congr (pG_ok n) hi hw (fun w' j h1 h2 h3 h4 => pG_irr n n' w' j h3 h2 h1 (by omega) (by omega))
def Qx (ts : List Tok) (w i : Nat) : Got := pG ts (9 * ts.length + 10) w i
theorem Q_ok (w i : Nat) (hi : i ≤ ts.length) : OkG ts i (Qx ts w i) := pG_ok _ w i hi
theorem Q_eq (w i : Nat) (h1 : 1 ≤ w) (hw : w ≤ 8) (hi : i ≤ ts.length) : Qx ts w i = bG ts (Qx ts) w i := by
  show bG ts (pG ts (9 * ts.length + 9)) w i = _
  exact bG_congr (pG_ok _) hi hw (fun w' j h1 h2 h3 h4 => pG_irr _ _ w' j h3 h2 h1 (by unfold me; omega) (by unfold me; omega))
end
end Go.Proofs.YtlkggpjdaaglmaaGreatDoor.vt
end
section
namespace Go.Proofs.YtlkggpjdaaglmaaGreatDoor.vt
open Go.Proofs.YtlkggpjdaaglmaaGreatDoor.am
set_option linter.unusedVariables false
section
variable {ts : List Tok}
noncomputable def sm (l : List VT) : Nat := (l.map Tr.size).sum
def Sz (i : Nat) (x : Got) : Prop := x.2.2 = 0 → x.1.size + i ≤ x.2.1
theorem sz_mk {i b : Nat} {k n : Int} {s : ByteArray} {l : List VT} (h : sm l + i < b) : Sz i (mk7 ts i b k n s l) := fun _ => by
  show Tr.size (Tr.mk _ l) + i ≤ b
  rw [Tr.size_mk]
  unfold sm at h
  omega
theorem sm1 (a : VT) : sm [a] = a.size := by simp [sm]
theorem sm2 (a b : VT) : sm [a, b] = a.size + b.size := by simp [sm]
theorem sm_app (l : List VT) (a : VT) : sm (l ++ [a]) = sm l + a.size := by simp [sm]
theorem lpL_sz {P : Nat → Got} {l a : Nat} (hl : l ≤ 5) (hP : ∀ j, j ≤ ts.length → OkG ts j (P j)) (hS : ∀ j, j ≤ ts.length → Sz j (P j)) : ∀ (m : Nat) (t : Bool) (x : Got), OkG ts a x → Sz a x → Sz a (lpL ts P l a m t x)
  | 0, t, x, hx, hs => hs
  | m + 1, t, x, hx, hs => by
    unfold lpL
    split
    · exact hs
    · rename_i h0
      have h0 : x.2.2 = 0 := by simpa using h0
      split
      · exact hs
      · rename_i h1
        have h1 : (opK (nxt ts x.2.1)).2 = l := by simpa using (not_or.1 h1).1
        have hlt := op_lt h1 hl
        have hp := hP (x.2.1 + 1) (by omega)
        have hy := hx.yes h0
        split
        · rename_i h2; exact fun h => absurd h h2
        · rename_i h2
          have h2 : (P (x.2.1 + 1)).2.2 = 0 := by simpa using h2
          have := hp.yes h2
          have q1 := hS (x.2.1 + 1) (by omega) h2
          have q2 := hs h0
          exact lpL_sz hl hP hS m true _ (ok_mk (by omega) this.2) (sz_mk (by rw [sm2]; omega))
theorem lpP_sz {E : Nat → Got} {a : Nat} (hE : ∀ j, j ≤ ts.length → OkG ts j (E j)) (hS : ∀ j, j ≤ ts.length → Sz j (E j)) : ∀ (m : Nat) (x : Got), OkG ts a x → Sz a x → Sz a (lpP ts E a m x)
  | 0, x, hx, hs => hs
  | m + 1, x, hx, hs => by
    unfold lpP
    split
    · exact hs
    · rename_i h0
      have h0 : x.2.2 = 0 := by simpa using h0
      have hy := hx.yes h0
      have q2 := hs h0
      split
      · rename_i h1
        have hlt := isK_lt h1
        have hp := hE (x.2.1 + 1) (by omega)
        split
        · rename_i h2; exact fun h => absurd h h2
        · rename_i h2
          have h2 : (E (x.2.1 + 1)).2.2 = 0 := by simpa using h2
          have hyy := hp.yes h2
          have q1 := hS (x.2.1 + 1) (by omega) h2
          split
          · exact fun h => by simp [bad7] at h
          · rename_i h3
            have := isK_lt (s := sShut) (ts := ts) (by simpa using h3)
            exact lpP_sz hE hS m _ (ok_mk (by omega) (by omega)) (sz_mk (by rw [sm2]; omega))
      · split
        · rename_i h1
          have hlt := isK_lt h1
          split
          · exact fun h => by simp [bad7] at h
          · rename_i h3
            have := k_lt (ts := ts) (k := 1) (by simpa using h3) (by decide)
            exact lpP_sz hE hS m _ (ok_mk (by omega) (by omega)) (sz_mk (by rw [sm1]; omega))
        · exact hs
def Sc (i : Nat) (x : List VT × Nat × Int) : Prop := x.2.2 = 0 → sm x.1 + i ≤ x.2.1
theorem lpC_sz {E : Nat → Got} (hE : ∀ j, j ≤ ts.length → OkG ts j (E j)) (hS : ∀ j, j ≤ ts.length → Sz j (E j)) (i0 : Nat) : ∀ (m i : Nat) (acc : List VT), i ≤ ts.length → sm acc + i0 ≤ i → Sc i0 (lpC ts E m i acc)
  | 0, i, acc, hi, _ => fun h => by simp [lpC] at h
  | m + 1, i, acc, hi, ha => by
    unfold lpC
    have hp := hE i hi
    split
    · rename_i h; exact fun h' => absurd h' h
    · rename_i h
      have h : (E i).2.2 = 0 := by simpa using h
      have hy := hp.yes h
      have q := hS i hi h
      split
      · exact fun _ => by show sm (acc ++ [(E i).1]) + i0 ≤ (E i).2.1; rw [sm_app]; omega
      · rename_i h3
        have hlt := isK_lt (s := sCom) (ts := ts) (by simpa using h3)
        exact lpC_sz hE hS i0 m ((E i).2.1 + 1) (acc ++ [(E i).1]) (by omega) (by rw [sm_app]; omega)
theorem cloG_sz {E : Nat → Got} (hE : ∀ j, j ≤ ts.length → OkG ts j (E j)) (hS : ∀ j, j ≤ ts.length → Sz j (E j)) {o : Nat} (few : Bool) (fs ls : ByteArray) (ho : o ≤ ts.length) : (cloG ts E o few fs ls).2.2 = 0 → sm (cloG ts E o few fs ls).1 + o < (cloG ts E o few fs ls).2.1 := by
  unfold cloG
  split
  · exact fun h => by simp at h
  · rename_i h0
    have h0 := isK_lt (s := fs) (ts := ts) (by simpa using h0)
    split
    · exact fun _ => by show 0 + o < o + 2; omega
    · have hc := lpC_sz hE hS (o + 1) (ts.length + 1) (o + 1) [] (by omega) (by show 0 + (o + 1) ≤ o + 1; omega)
      split
      · rename_i h; exact fun h' => absurd h' h
      · rename_i h2
        have h2 : (lpC ts E (ts.length + 1) (o + 1) []).2.2 = 0 := by simpa using h2
        have := hc h2
        split
        · exact fun h => by simp at h
        · exact fun _ => by dsimp only; omega
theorem fin_sz {i o : Nat} {k : Int} {s : ByteArray} {c : List VT × Nat × Int} (h : c.2.2 = 0 → sm c.1 + o < c.2.1) (ho : i ≤ o) : Sz i (finC ts i k s c) := by
  unfold finC
  split
  · rename_i h0; exact fun h' => absurd h' h0
  · rename_i h0
    have := h (by simpa using h0)
    exact sz_mk (by omega)
theorem sz_bad {i j : Nat} : Sz i (bad7 j) := fun h => by simp [bad7] at h
theorem calG_sz {E : Nat → Got} (hE : ∀ j, j ≤ ts.length → OkG ts j (E j)) (hS : ∀ j, j ≤ ts.length → Sz j (E j)) (i : Nat) (hi : i ≤ ts.length) : Sz i (calG ts E i) := by
  unfold calG
  split
  · rename_i h; have := k_lt h (by decide); exact fin_sz (cloG_sz hE hS true sParO sParS (by omega)) (by omega)
  split
  · rename_i h; have := isK_lt h; exact fin_sz (cloG_sz hE hS false sOpen sShut (by omega)) (by omega)
  split
  · rename_i h; have := isK_lt h
    split
    · exact sz_bad
    · rename_i h2; have := k_lt (ts := ts) (k := 1) (by simpa using h2) (by decide)
      exact fin_sz (cloG_sz hE hS true sParO sParS (by omega)) (by omega)
  split
  · rename_i h; have := isK_lt h
    split
    · exact sz_bad
    · rename_i h2; have := k_lt (ts := ts) (k := 1) (by simpa using h2) (by decide)
      exact fin_sz (cloG_sz hE hS false sParO sParS (by omega)) (by omega)
  · exact sz_bad
theorem atoG_sz {E : Nat → Got} (hE : ∀ j, j ≤ ts.length → OkG ts j (E j)) (hS : ∀ j, j ≤ ts.length → Sz j (E j)) (i : Nat) (hi : i ≤ ts.length) : Sz i (atoG ts E i) := by
  have s0 : sm ([] : List VT) = 0 := rfl
  unfold atoG
  split
  · exact sz_mk (by omega)
  split
  · exact sz_mk (by omega)
  split
  · exact sz_mk (by omega)
  split
  · exact sz_mk (by omega)
  split
  · exact sz_mk (by omega)
  split
  · rename_i h
    have := isK_lt h
    split
    · rename_i h2; exact fun h => absurd h h2
    · rename_i h2
      have q := hS (i + 1) (by omega) (by simpa using h2)
      split
      · exact sz_bad
      · exact fun _ => by dsimp only; omega
  · exact calG_sz hE hS i hi
theorem bG_sz {R : Nat → Nat → Got} (hR : ∀ w j, j ≤ ts.length → OkG ts j (R w j)) (hS : ∀ w j, j ≤ ts.length → Sz j (R w j)) (w i : Nat) (hi : i ≤ ts.length) : Sz i (bG ts R w i) := by
  unfold bG
  split
  · rename_i h; exact lpL_sz h (hR _) (hS _) _ _ _ (hR _ i hi) (hS _ i hi)
  split
  · split
    · exact hS 7 i hi
    · rename_i h
      have hlt : i < ts.length := by
        unfold unN at h
        by_cases h1 : isK sNot (nxt ts i) = true
        · exact isK_lt h1
        · by_cases h2 : isK sMin (nxt ts i) = true
          · exact isK_lt h2
          · simp [h1, h2] at h
      split
      · rename_i h2; exact fun h => absurd h h2
      · rename_i h2
        have q := hS 6 (i + 1) (by omega) (by simpa using h2)
        exact sz_mk (by rw [sm1]; omega)
  split
  · exact lpP_sz (hR 1) (hS 1) _ _ (hR 8 i hi) (hS 8 i hi)
  · exact atoG_sz (hR 1) (hS 1) i hi
theorem pG_sz : ∀ (n w i : Nat), i ≤ ts.length → Sz i (pG ts n w i)
  | 0, w, i, hi => sz_bad
  | n + 1, w, i, hi => bG_sz (pG_ok n) (pG_sz n) w i hi
end
end Go.Proofs.YtlkggpjdaaglmaaGreatDoor.vt
end
