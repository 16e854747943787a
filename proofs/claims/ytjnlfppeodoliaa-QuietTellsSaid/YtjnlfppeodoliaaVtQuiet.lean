/-
  Layer 24: quiet terms, and the globals that stand in a term: plain. No program is named here.
-/
import Derived.Test.YtjnlfppeodoliaaVt
namespace Go.Proofs.Ytjnlfppeodoliaa.vt
open Go.Proofs.Ytjnlfppeodoliaa.am
set_option linter.unusedVariables false
/-- Does an operation divide by what is not known to be unlike 0? -/
def divB (x : Lab) (l : List VT) : Bool := (decide (x.n = 12) || decide (x.n = 13)) && (match l[1]? with | some b => !decide (b.lab.k = 5) || decide (b.lab.n = 0) | none => true)
def plK (k : Int) : Bool := decide (k = 5) || decide (k = 6) || decide (k = 7) || decide (k = 8) || decide (k = 9) || decide (k = 11) || decide (k = 13) || decide (k = 14) || decide (k = 15)
def okK (x : Lab) (l : List VT) : Bool := if x.k = 10 then !divB x l else plK x.k
noncomputable def quT (t : VT) : Bool := Tr.fold (fun x l bs => okK x l && bs.all id) t
theorem quT_mk (x : Lab) (l : List VT) : quT (.mk x l) = (okK x l && l.all quT) := by
  unfold quT; rw [Tr.fold_mk, List.all_map]; rfl
noncomputable def glT (t : VT) : List Int := Tr.fold (fun x _ bs => (if x.k = 9 then [x.n] else []) ++ bs.flatten) t
theorem glT_mk (x : Lab) (l : List VT) : glT (.mk x l) = (if x.k = 9 then [x.n] else []) ++ (l.map glT).flatten := Tr.fold_mk _ x l
theorem glT_len (t : VT) : (glT t).length ≤ t.size := by
  induction t using Tr.ind with
  | h x l ih =>
  rw [glT_mk, List.length_append, Tr.size_mk]
  have h1 : ((l.map glT).flatten).length ≤ (l.map Tr.size).sum := by
    clear x
    induction l with
    | nil => simp
    | cons a l ih2 =>
      have := ih a (by simp)
      have := ih2 (fun y hy => ih y (by simp [hy]))
      simp only [List.map_cons, List.flatten_cons, List.length_append, List.sum_cons]; omega
  split <;> simp only [List.length_cons, List.length_nil] <;> omega
theorem glT_in {t : VT} : in64 t → ∀ z ∈ glT t, -9223372036854775808 ≤ z ∧ z ≤ 9223372036854775807 := by
  induction t using Tr.ind with
  | h x l ih =>
  intro h z hz
  rw [glT_mk, List.mem_append] at hz
  rcases hz with hz | hz
  · split at hz
    · simp at hz; subst hz
      have := ((Tr.all_mk _ x l).1 h).1
      exact this.2.1
    · cases hz
  · simp only [List.mem_flatten, List.mem_map] at hz
    obtain ⟨_, ⟨y, hy, rfl⟩, hz⟩ := hz
    exact ih y hy (((Tr.all_mk _ x l).1 h).2 y hy) z hz
end Go.Proofs.Ytjnlfppeodoliaa.vt
