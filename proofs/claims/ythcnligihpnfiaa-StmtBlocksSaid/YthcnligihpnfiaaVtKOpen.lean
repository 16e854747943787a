/-
  Tokens that are handed in. No function is named here.
-/
import Derived.Test.YthcnligihpnfiaaVtOpen
import Derived.Test.YthcnligihpnfiaaVtTok
namespace Go.Proofs.Ythcnligihpnfiaa.am
open Go.ChangeShapes Go.WideShapes Go.ChangeAt Go.RowKit
open vt
set_option linter.unusedVariables false
set_option linter.unusedSimpArgs false
set_option maxRecDepth 100000
theorem c_tok : Try.prog.cellsOf 33 = 5 := by kernel_rfl
theorem ty_tok (n : Nat) (ps : List PV) (h : Ty Try.prog n 33 ps) : ∃ p : Tok, ps = kc p ∧ True := by
  cases n with
  | zero => exact h.elim
  | succ n =>
    unfold Ty at h
    rw [Try.underlying33] at h
    obtain ⟨hl, hf⟩ := h
    simp only [List.mem_cons, List.not_mem_nil, or_false, forall_eq_or_imp, forall_eq, c_int, c_int64, c_string] at hf
    rw [c_tok] at hl
    match ps, hl with
    | [p0, p1, p2, p3, p4], _ =>
      obtain ⟨f0, f1, f2, f3, f4⟩ := hf
      obtain ⟨z0, e0, w0⟩ := ty_int f0
      obtain ⟨z1, e1, w1⟩ := ty_int64 f1
      obtain ⟨s2, e2, w2⟩ := ty_string f2
      obtain ⟨z3, e3, w3⟩ := ty_int f3
      obtain ⟨z4, e4, w4⟩ := ty_int f4
      simp at e0 e1 e2 e3 e4
      subst e0 e1 e2 e3 e4
      exact ⟨⟨z0, z1, s2, z3, z4⟩, rfl, trivial⟩
def clK : List TypeId := [3, 2, 9, 33, 22]
theorem clK_ok : clK.all (okTy Try.prog clK) = true := by kernel_rfl
theorem open_vtoks {H : Type} {enc : TypeId × Value → H} {w : World} {r : Reach} {b0 : Nat} {v : Value} {d : DataW H} {p : List MemPlace}
    (hv : Value.okWide Try.prog w r b0 22 v) (h : DataW.Trod enc Try.prog w 0 (fun _ => true) true 22 v d p) : ∃ l : List Tok, RepV (fun _ => .un) (oldS w) w v (vKs l) ∧ l.length ≤ 9223372036854775807 := by
  obtain ⟨a, m, c, rfl⟩ := okWide_slice Try.underlying22 hv
  obtain ⟨n, q, h1, h2⟩ := open_cell clK_ok (by decide) rfl h
  obtain ⟨L, e, hm, _⟩ := ty_slice (f := kc) (Q := fun _ => True) Try.underlying22 (fun n x h => ty_tok n x h) h2
  rw [c_tok] at e
  simp at e
  subst e
  exact ⟨L, h1, by unfold maxLen at hm; omega⟩
end Go.Proofs.Ythcnligihpnfiaa.am
