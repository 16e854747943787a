/-
  Layer 5: the tokens of a text, as rows of the machine of values.
-/
import Derived.Test.YtlkggpjdaaglmaaDoorAmLib
import Derived.Test.YtlkggpjdaaglmaaDoorVtTok
import Derived.Test.YtlkggpjdaaglmaaDoorLexR
namespace Go.Proofs.YtlkggpjdaaglmaaDoor.am
open Go.ChangeShapes Go.WideShapes Go.ChangeAt Go.RowKit
open vt
set_option linter.unusedVariables false

def tkT (x : lx.Tk) : Tok := ⟨x.k, x.n, x.s, x.f, x.t⟩
/-- The tokens of a text, the place and the error. -/
def tokG (s : ByteArray) : List Tok × Nat × Int := ((lx.tokens s).1.map tkT, (lx.tokens s).2)
abbrev vTk (r : List Tok × Nat × Int) : AV := .tup [.c (.pv (.sl 5 (r.1.map kc))), .c (.pv (I (r.2.1 : Nat))), .c (.pv (I r.2.2))]
theorem rep_tokens {γ : Nat → G} {S : CS} {w w' : World} {r : List lx.Tk × Nat × Int} {e : Ending} (h : lx.TsO r w e w') : ∃ v, e = .returned v ∧ Below w.heap.size w w' ∧ RepV γ (newS S w w') w' v (vTk (r.1.map tkT, r.2)) := by
  obtain ⟨a, n, c, rfl, ⟨hk, hn⟩, hb⟩ := h
  refine ⟨_, rfl, hb, _, rfl, rfl, fun i x hx => ?_⟩
  have hsl : RepP (newS S w w') w' (.slice a n c) (.sl 5 ((r.1.map tkT).map kc)) := by
    rcases Nat.eq_zero_or_pos n with h0 | h0
    · subst h0
      have : r.1 = [] := List.length_eq_zero_iff.1 hk.len
      rw [this]
      exact .emp a c 5 hk.most hk.nil
    · rcases hn with hn | ⟨b, off, rfl, hnb⟩
      · omega
      rcases hk.at' with hz | ⟨b', off', hab, hlt, hc⟩
      · omega
      obtain ⟨rfl, rfl⟩ : b = b' ∧ off = off' := by injection hab with h; injection h with h1 h2; exact ⟨h1, h2⟩
      refine .sl b off n c 5 _ (by rw [List.length_map, List.length_map]; exact hk.len) h0 hk.cap hk.most (fun e he => ?_) (fun i j => (((r.1[i]?).bind fun x => x.cells[j]?)).getD undef) (fun i e j p h1 h2 => ?_) (fun i e j p h1 h2 => ?_)
      · obtain ⟨y, _, rfl⟩ := List.mem_map.1 he; rfl
      · rw [List.map_map, List.getElem?_map] at h1
        obtain ⟨y, hy, rfl⟩ := Option.map_eq_some_iff.1 h1
        have hj : j < 5 := (List.getElem?_eq_some_iff.1 h2).1
        refine ⟨.inr ⟨hnb, hlt⟩, ?_⟩
        rw [hy]
        have hcl : ∃ u, y.cells[j]? = some u := ⟨_, List.getElem?_eq_getElem (by exact hj)⟩
        obtain ⟨u, hu⟩ := hcl
        rw [hc i y hy j u hu]
        simp [hu]
      · rw [List.map_map, List.getElem?_map] at h1
        obtain ⟨y, hy, rfl⟩ := Option.map_eq_some_iff.1 h1
        rw [hy]
        have hj : j < 5 := (List.getElem?_eq_some_iff.1 h2).1
        match j, hj with
        | 0, _ => obtain rfl := Option.some.inj h2; exact .lit _ rfl
        | 1, _ => obtain rfl := Option.some.inj h2; exact .lit _ rfl
        | 2, _ => obtain rfl := Option.some.inj h2; exact .lit _ rfl
        | 3, _ => obtain rfl := Option.some.inj h2; exact .lit _ rfl
        | 4, _ => obtain rfl := Option.some.inj h2; exact .lit _ rfl
  match i, hx with
  | 0, hx => obtain rfl := Option.some.inj hx; exact ⟨_, rfl, hsl⟩
  | 1, hx => obtain rfl := Option.some.inj hx; exact ⟨_, rfl, .lit _ rfl⟩
  | 2, hx => obtain rfl := Option.some.inj hx; exact ⟨_, rfl, .lit _ rfl⟩
  | i + 3, hx => simp at hx
theorem rtokens_row (s : ByteArray) (hs : s.size ≤ 9223372036854775807) : Row Tryd.prog 12 [vS s] [] (vTk (tokG s)) [] := by
  refine ⟨⟨_, Tryd.func12, rfl, rfl⟩, spec_of_below (ch := []) fun γ S w vs hm hv => ?_⟩
  match vs, hv with
  | [v0], ⟨h0, _⟩ =>
    obtain ⟨rfl, _⟩ := lit_inv h0
    exact (lx.rtokens_own s w hs).mono fun e w' h => rep_tokens h
end Go.Proofs.YtlkggpjdaaglmaaDoor.am
