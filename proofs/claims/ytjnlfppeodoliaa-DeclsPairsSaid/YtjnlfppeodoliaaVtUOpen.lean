/-
  Layer 32: what is handed in. No function is named here.
-/
import Derived.Test.YtjnlfppeodoliaaVtOpen
import Derived.Test.YtjnlfppeodoliaaDecHol
namespace Go.Proofs.Ytjnlfppeodoliaa.am
open Go.ChangeShapes Go.WideShapes Go.ChangeAt Go.RowKit
open vt
set_option linter.unusedVariables false
set_option linter.unusedSimpArgs false
set_option maxRecDepth 100000
structure UseV where
  rule : Int
  nums : List Int
  l : VT
  r : VT
noncomputable def ucc (u : UseV) : List PV := [I u.rule, Is u.nums] ++ (tc u.l ++ tc u.r)
theorem c_use : Try.prog.cellsOf 27 = 14 := by kernel_rfl
theorem c_ints : Try.prog.cellsOf 22 = 1 := by kernel_rfl
theorem ty_int' (n : Nat) (ps : List PV) (h : Ty Try.prog n 3 ps) : ∃ z : Int, ps = (fun z : Int => [I z]) z ∧ (-9223372036854775808 ≤ z ∧ z ≤ 9223372036854775807) := by
  obtain ⟨z, h1, h2⟩ := ty_int h
  exact ⟨z, h1, h2⟩
theorem ty_ints {n : Nat} {ps : List PV} (h : Ty Try.prog n 22 ps) : ∃ L : List Int, ps = [Is L] ∧ ok64 L := by
  obtain ⟨L, e, _, hq⟩ := ty_slice (f := fun z : Int => [I z]) (Q := fun z : Int => -9223372036854775808 ≤ z ∧ z ≤ 9223372036854775807) Try.underlying22 ty_int' h
  rw [c_int] at e
  exact ⟨L, e, hq⟩
theorem ty_use (n : Nat) (ps : List PV) (h : Ty Try.prog n 27 ps) : ∃ u : UseV, ps = ucc u ∧ (in64 u.l ∧ in64 u.r ∧ ok64 u.nums) := by
  cases n with
  | zero => exact h.elim
  | succ n =>
    unfold Ty at h
    rw [Try.underlying27] at h
    obtain ⟨hl, hf⟩ := h
    simp only [List.mem_cons, List.not_mem_nil, or_false, forall_eq_or_imp, forall_eq, c_int, c_ints, c_term] at hf
    rw [c_use] at hl
    match ps, hl with
    | [p0, p1, p2, p3, p4, p5, p6, p7, p8, p9, p10, p11, p12, p13], _ =>
      obtain ⟨f0, f1, f2, f3⟩ := hf
      obtain ⟨z0, e0, w0⟩ := ty_int f0
      obtain ⟨L, e1, w1⟩ := ty_ints f1
      obtain ⟨⟨x, l⟩, e2, h2⟩ := ty_term _ _ f2
      obtain ⟨⟨y, m⟩, e3, h3⟩ := ty_term _ _ f3
      rw [tc_mk] at e2 e3
      simp at e0 e1 e2 e3
      obtain ⟨a1, a2, a3, a4, a5, a6⟩ := e2
      obtain ⟨b1, b2, b3, b4, b5, b6⟩ := e3
      subst e0 e1 a1 a2 a3 a4 a5 a6 b1 b2 b3 b4 b5 b6
      exact ⟨⟨z0, L, .mk x l, .mk y m⟩, by unfold ucc; rw [tc_mk, tc_mk]; rfl, h2, h3, w1⟩
def clU : List TypeId := [3, 2, 9, 23, 25, 22, 27]
theorem clU_ok : clU.all (okTy Try.prog clU) = true := by kernel_rfl
theorem open_use {H : Type} {enc : TypeId × Value → H} {w : World} {r : Reach} {b0 : Nat} {v : Value} {d : DataW H} {p : List MemPlace}
    (hv : Value.okWide Try.prog w r b0 27 v) (h : DataW.Trod enc Try.prog w 0 (fun _ => true) true 27 v d p) : ∃ u : UseV, RepV (fun _ => .un) (oldS w) w v (.v (.agg (.pv (I u.rule) :: .pv (Is u.nums) :: (ta u.l ++ ta u.r)))) ∧ (in64 u.l ∧ in64 u.r ∧ ok64 u.nums) := by
  obtain ⟨cs, rfl, hsz⟩ := okWide_struct Try.underlying27 hv
  obtain ⟨n, ps, h1, h2⟩ := open_agg clU_ok (by decide) h
  obtain ⟨u, rfl, h3⟩ := ty_use n ps h2
  refine ⟨u, ?_, h3⟩
  have e : (ucc u).map AC.pv = .pv (I u.rule) :: .pv (Is u.nums) :: (ta u.l ++ ta u.r) := by unfold ucc ta; simp
  rw [← e]; exact h1
theorem open_ints {H : Type} {enc : TypeId × Value → H} {w : World} {r : Reach} {b0 : Nat} {v : Value} {d : DataW H} {p : List MemPlace}
    (hv : Value.okWide Try.prog w r b0 22 v) (h : DataW.Trod enc Try.prog w 0 (fun _ => true) true 22 v d p) : ∃ L : List Int, RepV (fun _ => .un) (oldS w) w v (vIs L) ∧ ok64 L := by
  obtain ⟨a, m, c, rfl⟩ := okWide_slice Try.underlying22 hv
  obtain ⟨n, q, h1, h2⟩ := open_cell clU_ok (by decide) rfl h
  obtain ⟨L, e, h3⟩ := ty_ints h2
  simp at e; subst e
  exact ⟨L, h1, h3⟩
end Go.Proofs.Ytjnlfppeodoliaa.am
