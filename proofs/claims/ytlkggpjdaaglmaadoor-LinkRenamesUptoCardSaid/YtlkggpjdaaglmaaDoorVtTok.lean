/-
  Tokens, a reader of them, types out of them: plain. No program is named here.
-/
import Derived.Test.YtlkggpjdaaglmaaDoorVtTerm
namespace Go.Proofs.YtlkggpjdaaglmaaDoor.vt
open Go.Proofs.YtlkggpjdaaglmaaDoor.am
set_option linter.unusedVariables false

structure Tok where
  k : Int
  n : Int
  s : ByteArray
  f : Int
  t : Int
def kc (x : Tok) : List PV := [I x.k, I x.n, Sx x.s, I x.f, I x.t]
abbrev vK (x : Tok) : AV := .v (.agg [.pv (I x.k), .pv (I x.n), .pv (Sx x.s), .pv (I x.f), .pv (I x.t)])
abbrev vKs (l : List Tok) : AV := .v (.c (.pv (.sl 5 (l.map kc))))
def endK : Tok := ⟨5, 0, ⟨#[]⟩, 0, 0⟩
def zK : Tok := ⟨0, 0, ⟨#[]⟩, 0, 0⟩
def nxt (ts : List Tok) (i : Nat) : Tok := match ts[i]? with | some x => x | none => endK
theorem nxt_some {ts : List Tok} {i : Nat} {x : Tok} (h : ts[i]? = some x) : nxt ts i = x := by unfold nxt; rw [h]
theorem nxt_none {ts : List Tok} {i : Nat} (h : ts.length ≤ i) : nxt ts i = endK := by unfold nxt; rw [List.getElem?_eq_none h]
/-- A reader. -/
abbrev rd (ts : List Tok) (i : Nat) (e : Int) : AO := .box [.pv (.sl 5 (ts.map kc)), .pv (I i), .pv (I e)]
/-- The kind of what a grammar quotes. -/
def quo (s : ByteArray) : Int := match s.data.toList with | c :: _ => if 97 ≤ c.toNat ∧ c.toNat ≤ 122 then 3 else 4 | [] => 4
def isK (s : ByteArray) (x : Tok) : Bool := decide (x.k = quo s) && decide (x.s = s)
theorem quo_34 (s : ByteArray) : quo s = 3 ∨ quo s = 4 := by
  unfold quo; split
  · split
    · exact .inl rfl
    · exact .inr rfl
  · exact .inr rfl
theorem isK_end (s : ByteArray) : isK s endK = false := by
  unfold isK endK
  rcases quo_34 s with h | h <;> rw [h] <;> rfl
theorem isK_at {s : ByteArray} {ts : List Tok} {i : Nat} (h : isK s (nxt ts i) = true) : ∃ x, ts[i]? = some x ∧ isK s x = true := by
  unfold nxt at h
  cases hx : ts[i]? with
  | none => rw [hx] at h; dsimp only at h; rw [isK_end] at h; cases h
  | some x => rw [hx] at h; exact ⟨x, rfl, h⟩
/-- What a reader's error is, once it fails. -/
def er (e : Int) : Int := if e = 0 then 6 else e
/-- A term of the tokens from one place to another. -/
def frT (ts : List Tok) (i : Nat) : Int := (nxt ts i).f
def toT (ts : List Tok) (i : Nat) : Int := (nxt ts i).t
abbrev wInt : ByteArray := ⟨#[105, 110, 116]⟩
abbrev wBool : ByteArray := ⟨#[98, 111, 111, 108]⟩
abbrev sOpen : ByteArray := ⟨#[91]⟩
abbrev sShut : ByteArray := ⟨#[93]⟩
def z0 : VT := .mk ⟨0, 0, ⟨#[]⟩, 0, 0⟩ []
/-- A type out of tokens: the term, the place behind it (or of what is wrong), the error. -/
def tyG (ts : List Tok) : Nat → Nat → VT × Nat × Int
  | 0, i => (z0, i, 6)
  | n + 1, i =>
    if isK wInt (nxt ts i) = true then (.mk ⟨1, 0, ⟨#[]⟩, frT ts i, toT ts i⟩ [], i + 1, 0)
    else if isK wBool (nxt ts i) = true then (.mk ⟨2, 0, ⟨#[]⟩, frT ts i, toT ts i⟩ [], i + 1, 0)
    else if isK sOpen (nxt ts i) = true then
      if (nxt ts (i + 1)).k = 2 then
        if isK sShut (nxt ts (i + 2)) = true then
          if (tyG ts n (i + 3)).2.2 = 0 then (.mk ⟨3, (nxt ts (i + 1)).n, ⟨#[]⟩, frT ts i, toT ts ((tyG ts n (i + 3)).2.1 - 1)⟩ [(tyG ts n (i + 3)).1], (tyG ts n (i + 3)).2.1, 0)
          else tyG ts n (i + 3)
        else (z0, i + 2, 6)
      else (z0, i + 1, 6)
    else if (nxt ts i).k = 1 then (.mk ⟨4, 0, (nxt ts i).s, frT ts i, toT ts i⟩ [], i + 1, 0)
    else (z0, i, 6)
theorem tyG_ok (ts : List Tok) : ∀ n i, ((tyG ts n i).2.2 = 0 → i < (tyG ts n i).2.1 ∧ (tyG ts n i).2.1 ≤ ts.length) ∧ ((tyG ts n i).2.2 ≠ 0 → (tyG ts n i).2.2 = 6 ∧ (tyG ts n i).1 = z0) ∧ (i ≤ ts.length → (tyG ts n i).2.1 ≤ ts.length) ∧ (tyG ts n i).1.size ≤ n + 1 := by
  have hlt : ∀ {s : ByteArray} {i : Nat}, isK s (nxt ts i) = true → i < ts.length := fun {s i} h => by
    obtain ⟨x, h1, _⟩ := isK_at h
    exact (List.getElem?_eq_some_iff.1 h1).1
  have hlk : ∀ {k : Int} {i : Nat}, (nxt ts i).k = k → k ≠ 5 → i < ts.length := fun {k i} h hk => by
    rcases Nat.lt_or_ge i ts.length with h1 | h1
    · exact h1
    · rw [nxt_none h1] at h; exact absurd h.symm hk
  intro n
  induction n with
  | zero => intro i; simp [tyG, z0, Tr.size_mk]
  | succ n ih =>
    intro i
    unfold tyG
    split
    · rename_i h; have := hlt h; simp [Tr.size_mk]; omega
    · split
      · rename_i h; have := hlt h; simp [Tr.size_mk]; omega
      · split
        · rename_i h0
          have h0 := hlt h0
          split
          · rename_i h1
            have h1 := hlk h1 (by omega)
            split
            · rename_i h2
              have h2 := hlt h2
              obtain ⟨a1, a2, a3, a4⟩ := ih (i + 3)
              split
              · rename_i h3
                have := a1 h3
                simp [Tr.size_mk]; omega
              · rename_i h3
                exact ⟨fun h => absurd h h3, fun h => a2 h, fun h => a3 (by omega), by omega⟩
            · simp [z0, Tr.size_mk]; omega
          · simp [z0, Tr.size_mk]; omega
        · split
          · rename_i h; have := hlk h (by omega); simp [Tr.size_mk]; omega
          · simp [z0, Tr.size_mk]
end Go.Proofs.YtlkggpjdaaglmaaDoor.vt
