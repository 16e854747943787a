/-
  Outcomes that are handed in. No function is named here.
-/
import Derived.Test.YtlkggpjdaaglmaaDoorVtOpen
import Derived.Test.YtlkggpjdaaglmaaDoorLnkAgr
namespace Go.Proofs.YtlkggpjdaaglmaaDoor.am
open Go.ChangeShapes Go.WideShapes Go.ChangeAt Go.RowKit
open vt
set_option linter.unusedVariables false
set_option linter.unusedSimpArgs false
set_option maxRecDepth 100000
theorem c_outc : Tryd.prog.cellsOf 24 = 4 := by kernel_rfl
theorem c_i64s : Tryd.prog.cellsOf 22 = 1 := by kernel_rfl
theorem ty_int64' (n : Nat) (ps : List PV) (h : Ty Tryd.prog n 2 ps) : ∃ z : Int, ps = zc z ∧ True := by
  obtain ⟨z, h1, h2⟩ := ty_int64 h
  exact ⟨z, h1, trivial⟩
theorem ty_i64s {n : Nat} {ps : List PV} (h : Ty Tryd.prog n 22 ps) : ∃ L : List Int, ps = [.sl 1 (L.map zc)] := by
  obtain ⟨L, e, _, hq⟩ := ty_slice (f := zc) (Q := fun _ : Int => True) Tryd.underlying22 ty_int64' h
  rw [c_int64] at e
  exact ⟨L, e⟩
theorem ty_outc (n : Nat) (ps : List PV) (h : Ty Tryd.prog n 24 ps) : ∃ a : Oc, ps = [I a.k, I a.n, .sl 1 (a.tr.map zc), I a.u] := by
  cases n with
  | zero => exact h.elim
  | succ n =>
    unfold Ty at h
    rw [Tryd.underlying24] at h
    obtain ⟨hl, hf⟩ := h
    simp only [List.mem_cons, List.not_mem_nil, or_false, forall_eq_or_imp, forall_eq, c_int, c_int64, c_i64s] at hf
    rw [c_outc] at hl
    match ps, hl with
    | [p0, p1, p2, p3], _ =>
      obtain ⟨f0, f1, f2, f3⟩ := hf
      obtain ⟨z0, e0, w0⟩ := ty_int f0
      obtain ⟨z1, e1, w1⟩ := ty_int64 f1
      obtain ⟨L, e2⟩ := ty_i64s f2
      obtain ⟨z3, e3, w3⟩ := ty_int f3
      simp at e0 e1 e2 e3
      subst e0 e1 e2 e3
      exact ⟨⟨z0, z1, L, z3⟩, rfl⟩
def clO : List TypeId := [3, 2, 22, 24]
theorem clO_ok : clO.all (okTy Tryd.prog clO) = true := by kernel_rfl
theorem open_voutc {H : Type} {enc : TypeId × Value → H} {w : World} {r : Reach} {b0 : Nat} {v : Value} {d : DataW H} {p : List MemPlace}
    (hv : Value.okWide Tryd.prog w r b0 24 v) (h : DataW.Trod enc Tryd.prog w 0 (fun _ => true) true 24 v d p) : ∃ a : Oc, RepV (fun _ => .un) (oldS w) w v (vOc a) ∧ True := by
  obtain ⟨cs, rfl, hsz⟩ := okWide_struct Tryd.underlying24 hv
  obtain ⟨n, ps, h1, h2⟩ := open_agg clO_ok (by decide) h
  obtain ⟨a, rfl⟩ := ty_outc n ps h2
  exact ⟨a, h1, trivial⟩
end Go.Proofs.YtlkggpjdaaglmaaDoor.am
