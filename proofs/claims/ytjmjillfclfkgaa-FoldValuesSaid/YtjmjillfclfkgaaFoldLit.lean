/-
  Layer 27: literals.
-/
import Derived.Test.YtjmjillfclfkgaaFoldTells
import Derived.Deep.CutRange
namespace Go.Proofs.Ytjmjillfclfkgaa.fo
open Go.ChangeShapes Go.WideShapes Go.ChangeAt Go.RowKit
open bs tr te
set_option linter.unusedVariables false

def BP (p : Prop) (w : World) (e : Ending) (w' : World) : Prop := ∃ r : Bool, e = .returned (.bool r) ∧ Hid (r = true ↔ p) ∧ Below w.heap.size w w'
theorem ff {p : Prop} (h : ¬ p) : (false = true ↔ p) := ⟨nofun, fun h' => absurd h' h⟩
theorem tt {p : Prop} (h : p) : (true = true ↔ p) := ⟨fun _ => h, fun _ => rfl⟩
/-- Is a term a literal? -/
def Lit (t : VT) : Prop := t.lab.s = ⟨#[]⟩ ∧ t.kids = [] ∧ (t.lab.k = 5 ∨ t.lab.k = 6 ∧ (t.lab.n = 0 ∨ t.lab.n = 1))
def leaf (k n : Int) : te.Vn := ⟨⟨k, n, ⟨#[]⟩, 0, 0⟩, none, 0, 0, []⟩
theorem leaf_rd {k n : Int} (hk : te.I64 k) (hn : te.I64 n) (w : World) : (leaf k n).Rd w := ⟨(v0_rd w).1, ⟨hk, hn, i64_0, i64_0⟩⟩
def lv : Option (Int × Int) → te.Vn
  | some (k, n) => leaf k n
  | none => te.v0
/-- A literal, or none. -/
def VP (o : Option (Int × Int)) (w : World) (e : Ending) (w' : World) : Prop := e = .returned (.tuple #[(lv o).val, .bool o.isSome]) ∧ Below w.heap.size w w'

theorem lit_mk (k n : Int) (s : ByteArray) (f t : Int) (l : List VT) : Lit (.mk ⟨k, n, s, f, t⟩ l) ↔ s = ⟨#[]⟩ ∧ l = [] ∧ (k = 5 ∨ k = 6 ∧ (n = 0 ∨ n = 1)) := Iff.rfl
theorem ne_empty {s : ByteArray} (h : ¬ s = ⟨#[]⟩) : ¬ s.toList = [] := fun hs => by
  have h2 := text_eq s ⟨#[]⟩
  rw [decide_eq_false h, beq_eq_false_iff_ne, hs] at h2
  exact h2 (by rw [ByteArray.toList_eq])
theorem bool_of (p : Prop) : ∃ b : Bool, b = true ↔ p := by
  by_cases h : p
  · exact ⟨true, by simp [h]⟩
  · exact ⟨false, by simp [h]⟩

set_option maxRecDepth 100000 in
set_option maxHeartbeats 2000000 in
theorem lit_any (a : te.Vn) (w : World) (ha : a.Rd w) : Calls Try.prog 21 #[a.val] w (BP (Lit a.tr) w) := by
  obtain ⟨⟨k, n, s, f, t⟩, va, vm, vc, vl⟩ := a
  have hW : Below w.heap.size w (w.alloc (.cells #[.int .i64 k, .int .i64 n, .string s, .slice va vm vc, .int .i64 f, .int .i64 t] 24)) := (Below.refl _ _).alloc (Nat.le_refl _) _
  have hX : VB (w.alloc (.cells #[.int .i64 k, .int .i64 n, .string s, .slice va vm vc, .int .i64 f, .int .i64 t] 24)) w.heap.size ⟨⟨k, n, s, f, t⟩, va, vm, vc, vl⟩ := vb_new w ⟨⟨k, n, s, f, t⟩, va, vm, vc, vl⟩
  have hlen : vl.length = vm := ha.1.len
  have HLN := Lib.hid hlen
  have hcap : vm ≤ vc := ha.1.cap
  have hmost : vc ≤ 9223372036854775807 := ha.1.most
  have HW := Lib.hid hW; have HX := Lib.hid hX
  clear hW hX ha hlen
  obtain ⟨r, hr⟩ := bool_of (Lit (te.Vn.tr ⟨⟨k, n, s, f, t⟩, va, vm, vc, vl⟩))
  have HR := Lib.hid hr
  have hr2 : (r = true ↔ s = ⟨#[]⟩ ∧ vl = [] ∧ (k = 5 ∨ k = 6 ∧ (n = 0 ∨ n = 1))) := hr
  clear hr
  unfold te.Vn.val
  go_enter Try.func21, Try.ntmps21
  go_upto_region 1 with fail
  generalize hWW : w.alloc (.cells #[.int .i64 k, .int .i64 n, .string s, .slice va vm vc, .int .i64 f, .int .i64 t] 24) = W at HW HX ⊢
  clear hWW
  have p0 := HX.out.cell 0; have p1 := HX.out.cell 1; have p2 := HX.out.cell 2; have p3 := HX.out.cell 3
  simp at p0 p1 p2 p3
  by_cases hs : s = ⟨#[]⟩
  · subst hs
    by_cases hm : vm = 0
    · have hl : vl = [] := List.eq_nil_of_length_eq_zero (by have := HLN.out; omega)
      subst hl
      have b0 : decide ((0 : Int) < (vm : Int)) = false := decide_eq_false (by omega)
      have b1 : decide (0 < vm) = false := decide_eq_false (by omega)
      have b3 : ((vm : Int) == 0) = true := by rw [beq_iff_eq]; omega
      have b2 : ¬ 0 < vm := by omega
      have b4 : ((vm : Int) != 0) = false := by rw [bne_eq_false_iff_eq]; omega
      by_cases k5 : k = 5
      · have c5 : (k == 5) = true := by rw [beq_iff_eq]; exact k5
        have hv : r = true := hr2.2 ⟨rfl, rfl, .inl k5⟩
        have HV := Lib.hid hv
        clear k5 hm hr2 hv
        go_wp2
        go_ret
        exact ⟨r, by rw [HV.out]; rfl, HR, HW.out⟩
      · have c5 : (k == 5) = false := by rw [beq_eq_false_iff_ne]; exact k5
        by_cases k6 : k = 6
        · have c6 : (k == 6) = true := by rw [beq_iff_eq]; exact k6
          by_cases n0 : n = 0
          · have d0 : (n == 0) = true := by rw [beq_iff_eq]; exact n0
            have hv : r = true := hr2.2 ⟨rfl, rfl, .inr ⟨k6, .inl n0⟩⟩
            have HV := Lib.hid hv
            clear k5 k6 n0 hm hr2 hv
            go_wp2
            go_ret
            exact ⟨r, by rw [HV.out]; rfl, HR, HW.out⟩
          · have d0 : (n == 0) = false := by rw [beq_eq_false_iff_ne]; exact n0
            by_cases n1 : n = 1
            · have d1 : (n == 1) = true := by rw [beq_iff_eq]; exact n1
              have hv : r = true := hr2.2 ⟨rfl, rfl, .inr ⟨k6, .inr n1⟩⟩
              have HV := Lib.hid hv
              clear k5 k6 n0 n1 hm hr2 hv
              go_wp2
              go_ret
              exact ⟨r, by rw [HV.out]; rfl, HR, HW.out⟩
            · have d1 : (n == 1) = false := by rw [beq_eq_false_iff_ne]; exact n1
              have hv : r = false := by
                cases r with
                | false => rfl
                | true => have h := (hr2.1 rfl).2.2; omega
              have HV := Lib.hid hv
              clear k5 k6 n0 n1 hm hr2 hv
              go_wp2
              go_ret
              exact ⟨r, by rw [HV.out]; rfl, HR, HW.out⟩
        · have c6 : (k == 6) = false := by rw [beq_eq_false_iff_ne]; exact k6
          have hv : r = false := by
            cases r with
            | false => rfl
            | true => have h := (hr2.1 rfl).2.2; omega
          have HV := Lib.hid hv
          clear k5 k6 hm hr2 hv
          go_wp2
          go_ret
          exact ⟨r, by rw [HV.out]; rfl, HR, HW.out⟩
    · have b0 : decide ((0 : Int) < (vm : Int)) = true := decide_eq_true (by omega)
      have b1 : decide (0 < vm) = true := decide_eq_true (by omega)
      have b2 : 0 < vm := by omega
      have b3 : ((vm : Int) == 0) = false := by rw [beq_eq_false_iff_ne]; omega
      have b4 : ((vm : Int) != 0) = true := by rw [bne_iff_ne]; omega
      have hv : r = false := by
        cases r with
        | false => rfl
        | true => have h := (hr2.1 rfl).2.1; have := HLN.out; rw [h] at this; simp at this; omega
      have HV := Lib.hid hv
      clear hm hr2 hv
      go_wp2
      go_ret
      exact ⟨r, by rw [HV.out]; rfl, HR, HW.out⟩
  · have s1 : ¬ s.toList = [] := ne_empty hs
    have hv : r = false := by
      cases r with
      | false => rfl
      | true => exact absurd (hr2.1 rfl).1 hs
    have HV := Lib.hid hv
    clear hs hr2 hv
    go_wp2
    all_goals (
      go_ret
      exact ⟨r, by rw [HV.out]; rfl, HR, HW.out⟩)

set_option maxRecDepth 100000 in
set_option maxHeartbeats 2000000 in
theorem rlit_any (a : te.Vn) (w : World) (ha : a.Rd w) : Calls Try.prog 24 #[a.val] w (BP (Lit a.tr) w) := by
  obtain ⟨⟨k, n, s, f, t⟩, va, vm, vc, vl⟩ := a
  have hW : Below w.heap.size w (w.alloc (.cells #[.int .i64 k, .int .i64 n, .string s, .slice va vm vc, .int .i64 f, .int .i64 t] 24)) := (Below.refl _ _).alloc (Nat.le_refl _) _
  have hX : VB (w.alloc (.cells #[.int .i64 k, .int .i64 n, .string s, .slice va vm vc, .int .i64 f, .int .i64 t] 24)) w.heap.size ⟨⟨k, n, s, f, t⟩, va, vm, vc, vl⟩ := vb_new w ⟨⟨k, n, s, f, t⟩, va, vm, vc, vl⟩
  have hlen : vl.length = vm := ha.1.len
  have HLN := Lib.hid hlen
  have hcap : vm ≤ vc := ha.1.cap
  have hmost : vc ≤ 9223372036854775807 := ha.1.most
  have HW := Lib.hid hW; have HX := Lib.hid hX
  clear hW hX ha hlen
  obtain ⟨r, hr⟩ := bool_of (Lit (te.Vn.tr ⟨⟨k, n, s, f, t⟩, va, vm, vc, vl⟩))
  have HR := Lib.hid hr
  have hr2 : (r = true ↔ s = ⟨#[]⟩ ∧ vl = [] ∧ (k = 5 ∨ k = 6 ∧ (n = 0 ∨ n = 1))) := hr
  clear hr
  unfold te.Vn.val
  go_enter Try.func24, Try.ntmps24
  go_upto_region 1 with fail
  generalize hWW : w.alloc (.cells #[.int .i64 k, .int .i64 n, .string s, .slice va vm vc, .int .i64 f, .int .i64 t] 24) = W at HW HX ⊢
  clear hWW
  have p0 := HX.out.cell 0; have p1 := HX.out.cell 1; have p2 := HX.out.cell 2; have p3 := HX.out.cell 3
  simp at p0 p1 p2 p3
  by_cases hs : s = ⟨#[]⟩
  · subst hs
    by_cases hm : vm = 0
    · have hl : vl = [] := List.eq_nil_of_length_eq_zero (by have := HLN.out; omega)
      subst hl
      have b0 : decide ((0 : Int) < (vm : Int)) = false := decide_eq_false (by omega)
      have b1 : decide (0 < vm) = false := decide_eq_false (by omega)
      have b3 : ((vm : Int) == 0) = true := by rw [beq_iff_eq]; omega
      have b2 : ¬ 0 < vm := by omega
      have b4 : ((vm : Int) != 0) = false := by rw [bne_eq_false_iff_eq]; omega
      by_cases k5 : k = 5
      · have c5 : (k == 5) = true := by rw [beq_iff_eq]; exact k5
        have hv : r = true := hr2.2 ⟨rfl, rfl, .inl k5⟩
        have HV := Lib.hid hv
        clear k5 hm hr2 hv
        go_wp2
        go_ret
        exact ⟨r, by rw [HV.out]; rfl, HR, HW.out⟩
      · have c5 : (k == 5) = false := by rw [beq_eq_false_iff_ne]; exact k5
        by_cases k6 : k = 6
        · have c6 : (k == 6) = true := by rw [beq_iff_eq]; exact k6
          by_cases n0 : n = 0
          · have d0 : (n == 0) = true := by rw [beq_iff_eq]; exact n0
            have hv : r = true := hr2.2 ⟨rfl, rfl, .inr ⟨k6, .inl n0⟩⟩
            have HV := Lib.hid hv
            clear k5 k6 n0 hm hr2 hv
            go_wp2
            go_ret
            exact ⟨r, by rw [HV.out]; rfl, HR, HW.out⟩
          · have d0 : (n == 0) = false := by rw [beq_eq_false_iff_ne]; exact n0
            by_cases n1 : n = 1
            · have d1 : (n == 1) = true := by rw [beq_iff_eq]; exact n1
              have hv : r = true := hr2.2 ⟨rfl, rfl, .inr ⟨k6, .inr n1⟩⟩
              have HV := Lib.hid hv
              clear k5 k6 n0 n1 hm hr2 hv
              go_wp2
              go_ret
              exact ⟨r, by rw [HV.out]; rfl, HR, HW.out⟩
            · have d1 : (n == 1) = false := by rw [beq_eq_false_iff_ne]; exact n1
              have hv : r = false := by
                cases r with
                | false => rfl
                | true => have h := (hr2.1 rfl).2.2; omega
              have HV := Lib.hid hv
              clear k5 k6 n0 n1 hm hr2 hv
              go_wp2
              go_ret
              exact ⟨r, by rw [HV.out]; rfl, HR, HW.out⟩
        · have c6 : (k == 6) = false := by rw [beq_eq_false_iff_ne]; exact k6
          have hv : r = false := by
            cases r with
            | false => rfl
            | true => have h := (hr2.1 rfl).2.2; omega
          have HV := Lib.hid hv
          clear k5 k6 hm hr2 hv
          go_wp2
          go_ret
          exact ⟨r, by rw [HV.out]; rfl, HR, HW.out⟩
    · have b0 : decide ((0 : Int) < (vm : Int)) = true := decide_eq_true (by omega)
      have b1 : decide (0 < vm) = true := decide_eq_true (by omega)
      have b2 : 0 < vm := by omega
      have b3 : ((vm : Int) == 0) = false := by rw [beq_eq_false_iff_ne]; omega
      have b4 : ((vm : Int) != 0) = true := by rw [bne_iff_ne]; omega
      have hv : r = false := by
        cases r with
        | false => rfl
        | true => have h := (hr2.1 rfl).2.1; have := HLN.out; rw [h] at this; simp at this; omega
      have HV := Lib.hid hv
      clear hm hr2 hv
      go_wp2
      go_ret
      exact ⟨r, by rw [HV.out]; rfl, HR, HW.out⟩
  · have s1 : ¬ s.toList = [] := ne_empty hs
    have hv : r = false := by
      cases r with
      | false => rfl
      | true => exact absurd (hr2.1 rfl).1 hs
    have HV := Lib.hid hv
    clear hs hr2 hv
    go_wp2
    all_goals (
      go_ret
      exact ⟨r, by rw [HV.out]; rfl, HR, HW.out⟩)

end Go.Proofs.Ytjmjillfclfkgaa.fo
