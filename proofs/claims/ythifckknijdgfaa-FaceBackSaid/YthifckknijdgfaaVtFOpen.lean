/-
  Faces and pairs that are handed in. No function is named here.
-/
import Derived.Test.YthifckknijdgfaaVtOpen
import Derived.Test.YthifckknijdgfaaVtFace
namespace Go.Proofs.Ythifckknijdgfaa.am
open Go.ChangeShapes Go.WideShapes Go.ChangeAt Go.RowKit
open vt
set_option linter.unusedVariables false
set_option linter.unusedSimpArgs false
set_option maxRecDepth 100000
theorem c_face : Try.prog.cellsOf 52 = 9 := by kernel_rfl
theorem c_pair : Try.prog.cellsOf 54 = 2 := by kernel_rfl
theorem ty_pair (n : Nat) (ps : List PV) (h : Ty Try.prog n 54 ps) : ∃ p : Pr, ps = pcc p ∧ True := by
  cases n with
  | zero => exact h.elim
  | succ n =>
    unfold Ty at h
    rw [Try.underlying54] at h
    obtain ⟨hl, hf⟩ := h
    simp only [List.mem_cons, List.not_mem_nil, or_false, forall_eq_or_imp, forall_eq, c_int] at hf
    rw [c_pair] at hl
    match ps, hl with
    | [p0, p1], _ =>
      obtain ⟨f0, f1⟩ := hf
      obtain ⟨z0, e0, w0⟩ := ty_int f0
      obtain ⟨z1, e1, w1⟩ := ty_int f1
      simp at e0 e1
      subst e0 e1
      exact ⟨(z0, z1), rfl, trivial⟩
theorem ty_face (n : Nat) (ps : List PV) (h : Ty Try.prog n 52 ps) : ∃ f : Fc, ps = fcc f ∧ True := by
  cases n with
  | zero => exact h.elim
  | succ n =>
    unfold Ty at h
    rw [Try.underlying52] at h
    obtain ⟨hl, hf⟩ := h
    simp only [List.mem_cons, List.not_mem_nil, or_false, forall_eq_or_imp, forall_eq, c_int, c_string, c_terms, c_term] at hf
    rw [c_face] at hl
    match ps, hl with
    | [p0, p1, p2, p3, p4, p5, p6, p7, p8], _ =>
      obtain ⟨f0, f1, f2, f3⟩ := hf
      obtain ⟨s0, e0, w0⟩ := ty_string f0
      obtain ⟨L, e1, _, h1⟩ := ty_slice (f := tc) (Q := in64) Try.underlying23 (fun n x h => ty_term n x h) f1
      obtain ⟨⟨x, l⟩, e2, h2⟩ := ty_term _ _ f2
      obtain ⟨z3, e3, w3⟩ := ty_int f3
      rw [c_term] at e1
      rw [tc_mk] at e2
      simp at e0 e1 e2 e3
      obtain ⟨a1, a2, a3, a4, a5, a6⟩ := e2
      subst e0 e1 e3 a1 a2 a3 a4 a5 a6
      exact ⟨⟨s0, L, .mk x l, z3⟩, by rw [fcc_mk], trivial⟩
def clF : List TypeId := [3, 2, 9, 23, 25, 54, 43, 52, 42]
theorem clF_ok : clF.all (okTy Try.prog clF) = true := by kernel_rfl
theorem open_vfaces {H : Type} {enc : TypeId × Value → H} {w : World} {r : Reach} {b0 : Nat} {v : Value} {d : DataW H} {p : List MemPlace}
    (hv : Value.okWide Try.prog w r b0 42 v) (h : DataW.Trod enc Try.prog w 0 (fun _ => true) true 42 v d p) : ∃ l : List Fc, RepV (fun _ => .un) (oldS w) w v (vFs l) ∧ True := by
  obtain ⟨a, m, c, rfl⟩ := okWide_slice Try.underlying42 hv
  obtain ⟨n, q, h1, h2⟩ := open_cell clF_ok (by decide) rfl h
  obtain ⟨L, e, _, _⟩ := ty_slice (f := fcc) (Q := fun _ => True) Try.underlying42 (fun n x h => ty_face n x h) h2
  rw [c_face] at e
  simp at e
  subst e
  exact ⟨L, h1, trivial⟩
theorem open_vpairs {H : Type} {enc : TypeId × Value → H} {w : World} {r : Reach} {b0 : Nat} {v : Value} {d : DataW H} {p : List MemPlace}
    (hv : Value.okWide Try.prog w r b0 43 v) (h : DataW.Trod enc Try.prog w 0 (fun _ => true) true 43 v d p) : ∃ l : List Pr, RepV (fun _ => .un) (oldS w) w v (vPs l) ∧ True := by
  obtain ⟨a, m, c, rfl⟩ := okWide_slice Try.underlying43 hv
  obtain ⟨n, q, h1, h2⟩ := open_cell clF_ok (by decide) rfl h
  obtain ⟨L, e, _, _⟩ := ty_slice (f := pcc) (Q := fun _ => True) Try.underlying43 (fun n x h => ty_pair n x h) h2
  rw [c_pair] at e
  simp at e
  subst e
  exact ⟨L, h1, trivial⟩
end Go.Proofs.Ythifckknijdgfaa.am
