/-
  Terms that are handed in. No function is named here.
-/
import Derived.Test.YtlkggpjdaaglmaaDoorAmOpen
import Derived.Test.YtlkggpjdaaglmaaDoorTd
import Derived.Test.YtlkggpjdaaglmaaDoorChecked
namespace Go.Proofs.YtlkggpjdaaglmaaDoor.am
open Go.ChangeShapes Go.WideShapes Go.ChangeAt Go.RowKit
open vt
set_option linter.unusedVariables false
set_option linter.unusedSimpArgs false
set_option maxRecDepth 100000
theorem wf64 {z : Int} (h : (Lit.int .i64 z).wf = true) : -9223372036854775808 ≤ z ∧ z ≤ 9223372036854775807 := by
  simpa [Lit.wf, IntKind.min, IntKind.max, IntKind.signed, IntKind.bits] using h
theorem c_int : Tryd.prog.cellsOf 3 = 1 := by kernel_rfl
theorem c_int64 : Tryd.prog.cellsOf 2 = 1 := by kernel_rfl
theorem c_string : Tryd.prog.cellsOf 9 = 1 := by kernel_rfl
theorem c_terms : Tryd.prog.cellsOf 36 = 1 := by kernel_rfl
theorem c_term : Tryd.prog.cellsOf 38 = 6 := by kernel_rfl
theorem ty_int {n : Nat} {ps : List PV} (h : Ty Tryd.prog n 3 ps) : ∃ z, ps = [I z] ∧ -9223372036854775808 ≤ z ∧ z ≤ 9223372036854775807 := by
  cases n with
  | zero => exact h.elim
  | succ n => unfold Ty at h; rw [Tryd.underlying3] at h; obtain ⟨z, h1, h2⟩ := h; exact ⟨z, h1, wf64 h2⟩
theorem ty_int64 {n : Nat} {ps : List PV} (h : Ty Tryd.prog n 2 ps) : ∃ z, ps = [I z] ∧ -9223372036854775808 ≤ z ∧ z ≤ 9223372036854775807 := by
  cases n with
  | zero => exact h.elim
  | succ n => unfold Ty at h; rw [Tryd.underlying2] at h; obtain ⟨z, h1, h2⟩ := h; exact ⟨z, h1, wf64 h2⟩
theorem ty_string {n : Nat} {ps : List PV} (h : Ty Tryd.prog n 9 ps) : ∃ s, ps = [Sx s] ∧ s.size ≤ maxLen := by
  cases n with
  | zero => exact h.elim
  | succ n => unfold Ty at h; rw [Tryd.underlying9] at h; exact h
theorem ty_term : ∀ (n : Nat) (ps : List PV), Ty Tryd.prog n 38 ps → ∃ t : VT, ps = tc t ∧ in64 t := by
  intro n
  induction n using Nat.strongRecOn with
  | ind n ih =>
  intro ps h
  cases n with
  | zero => exact h.elim
  | succ n =>
    unfold Ty at h
    rw [Tryd.underlying38] at h
    obtain ⟨hl, hf⟩ := h
    simp only [List.mem_cons, List.not_mem_nil, or_false, forall_eq_or_imp, forall_eq, c_int, c_int64, c_string, c_terms] at hf
    rw [c_term] at hl
    match ps, hl with
    | [p0, p1, p2, p3, p4, p5], _ =>
      obtain ⟨f0, f1, f2, f3, f4, f5⟩ := hf
      obtain ⟨z0, e0, w0⟩ := ty_int f0
      obtain ⟨z1, e1, w1⟩ := ty_int64 f1
      obtain ⟨s2, e2, w2⟩ := ty_string f2
      obtain ⟨z4, e4, w4⟩ := ty_int f4
      obtain ⟨z5, e5, w5⟩ := ty_int f5
      simp at e0 e1 e2 e4 e5
      subst e0 e1 e2 e4 e5
      cases n with
      | zero => exact f3.elim
      | succ n =>
        unfold Ty at f3
        rw [Tryd.underlying36] at f3
        obtain ⟨l, e3, _, hl⟩ := f3
        rw [c_term] at e3
        simp at e3
        subst e3
        obtain ⟨L, hL, hq⟩ := bs.choose_list l.length (fun i (x : VT) => l[i]? = some (tc x) ∧ in64 x) (fun i hi => by
          obtain ⟨x, h1, h2⟩ := ih n (by omega) (l[i]'hi) (hl _ (List.getElem_mem hi))
          exact ⟨x, by rw [List.getElem?_eq_getElem hi, h1], h2⟩)
        have hlm : l = L.map tc := by
          apply List.ext_getElem?
          intro i
          rw [List.getElem?_map]
          by_cases hi : i < L.length
          · have := hq i _ (List.getElem?_eq_getElem hi)
            rw [this.1, List.getElem?_eq_getElem hi]; rfl
          · rw [List.getElem?_eq_none (by omega), List.getElem?_eq_none (by omega)]; rfl
        refine ⟨.mk ⟨z0, z1, s2, z4, z5⟩ L, by rw [tc_mk, hlm], (Tr.all_mk _ _ _).2 ⟨⟨w0, w1, w4, w5⟩, fun y hy => ?_⟩⟩
        obtain ⟨i, hi⟩ := List.mem_iff_getElem?.1 hy
        exact (hq i y hi).2
def clT : List TypeId := [3, 2, 9, 36, 38]
theorem clT_ok : clT.all (okTy Tryd.prog clT) = true := by kernel_rfl
theorem open_vterm {H : Type} {enc : TypeId × Value → H} {w : World} {r : Reach} {b0 : Nat} {v : Value} {d : DataW H} {p : List MemPlace}
    (hv : Value.okWide Tryd.prog w r b0 38 v) (h : DataW.Trod enc Tryd.prog w 0 (fun _ => true) true 38 v d p) : ∃ t : VT, RepV (fun _ => .un) (oldS w) w v (vT t) ∧ in64 t := by
  obtain ⟨cs, rfl, hsz⟩ := okWide_struct Tryd.underlying38 hv
  obtain ⟨n, ps, h1, h2⟩ := open_agg clT_ok (by decide) h
  obtain ⟨t, rfl, h3⟩ := ty_term n ps h2
  exact ⟨t, h1, h3⟩
theorem open_vint {H : Type} {enc : TypeId × Value → H} {w : World} {r : Reach} {b0 : Nat} {v : Value} {d : DataW H} {p : List MemPlace}
    (hv : Value.okWide Tryd.prog w r b0 3 v) (h : DataW.Trod enc Tryd.prog w 0 (fun _ => true) true 3 v d p) : ∃ z, RepV (fun _ => .un) (oldS w) w v (vI z) ∧ -9223372036854775808 ≤ z ∧ z ≤ 9223372036854775807 := by
  obtain ⟨z, rfl⟩ := okWide_int Tryd.underlying3 hv
  obtain ⟨n, q, h1, h2⟩ := open_cell clT_ok (by decide) rfl h
  obtain ⟨z', e, h3⟩ := ty_int h2
  simp at e; subst e
  exact ⟨z', h1, h3⟩
end Go.Proofs.YtlkggpjdaaglmaaDoor.am
