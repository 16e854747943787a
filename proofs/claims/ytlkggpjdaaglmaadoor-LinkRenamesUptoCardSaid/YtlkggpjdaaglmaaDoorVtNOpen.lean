/-
  Names that are handed in, with their bound. No function is named here.
-/
import Derived.Test.YtlkggpjdaaglmaaDoorAmOpenB
import Derived.Test.YtlkggpjdaaglmaaDoorVtOpen
import Derived.Test.YtlkggpjdaaglmaaDoorLnkRen
namespace Go.Proofs.YtlkggpjdaaglmaaDoor.am
open Go.ChangeShapes Go.WideShapes Go.ChangeAt Go.RowKit
open vt
set_option linter.unusedVariables false
set_option linter.unusedSimpArgs false
set_option maxRecDepth 100000
theorem c_nam : Tryd.prog.cellsOf 46 = 2 := by kernel_rfl
theorem ty_stringB {K n : Nat} {ps : List PV} (h : TyB Tryd.prog K n 9 ps) : ∃ s, ps = [Sx s] ∧ s.size ≤ K := by
  cases n with
  | zero => exact h.elim
  | succ n => unfold TyB at h; rw [Tryd.underlying9] at h; exact h
theorem ty_nam (K n : Nat) (ps : List PV) (h : TyB Tryd.prog K n 46 ps) : ∃ p : Nm, ps = nmc p ∧ p.2.size ≤ K := by
  cases n with
  | zero => exact h.elim
  | succ n =>
    unfold TyB at h
    rw [Tryd.underlying46] at h
    obtain ⟨hl, hf⟩ := h
    simp only [List.mem_cons, List.not_mem_nil, or_false, forall_eq_or_imp, forall_eq, c_string] at hf
    rw [c_nam] at hl
    match ps, hl with
    | [p0, p1], _ =>
      obtain ⟨f0, f1⟩ := hf
      obtain ⟨z0, e0, w0⟩ := ty_stringB f0
      obtain ⟨z1, e1, w1⟩ := ty_stringB f1
      simp at e0 e1
      subst e0 e1
      exact ⟨(z0, z1), rfl, w1⟩
def clN : List TypeId := [9, 46, 28]
theorem clN_ok : clN.all (okTy Tryd.prog clN) = true := by kernel_rfl
theorem open_namsB {H : Type} {enc : TypeId × Value → H} {w : World} {r : Reach} {b0 : Nat} {v : Value} {d : DataW H} {p : List MemPlace} {K : Nat}
    (hv : Value.okWide Tryd.prog w r b0 28 v) (h : DataW.Trod enc Tryd.prog w 0 (fun _ => true) true 28 v d p) (hK : Rows.uptoBulk d ≤ K) : ∃ l : List Nm, RepV (fun _ => .un) (oldS w) w v (vNs l) ∧ ∀ p ∈ l, p.2.size ≤ K := by
  obtain ⟨a, m, c, rfl⟩ := okWide_slice Tryd.underlying28 hv
  obtain ⟨n, q, h1, h2⟩ := open_cellB clN_ok (by decide) rfl h hK
  obtain ⟨L, e, _, hq⟩ := ty_sliceB (f := nmc) (Q := fun p : Nm => p.2.size ≤ K) Tryd.underlying28 (fun n x h => ty_nam K n x h) h2
  rw [c_nam] at e
  simp at e
  subst e
  exact ⟨L, h1, hq⟩
end Go.Proofs.YtlkggpjdaaglmaaDoor.am
