/-
  Layer 27: the program answers: 2 + 3.
-/
import Derived.Test.YtjmjillfclfkgaaFoldPV
namespace Go.Proofs.Ytjmjillfclfkgaa.fo
open Go.ChangeShapes Go.WideShapes Go.ChangeAt Go.RowKit
open bs tr te
set_option linter.unusedVariables false

theorem num_any (n : Int) (w : World) : Calls Try.prog 20 #[.int .i64 n] w (fun e w' => e = .returned (.agg #[.int .i64 5, .int .i64 n, .string ⟨#[]⟩, .slice none 0 0, .int .i64 0, .int .i64 0]) ∧ Below w.heap.size w w') := by
  go_enter Try.func20, Try.ntmps20
  go_wp2
  try simp only [Exit.inBlock, Exit.then]
  refine bodyPost_ret (results_cell_row rfl _ _ w.heap.size _ #[.int .i64 5, .int .i64 n, .string ⟨#[]⟩, .slice none 0 0, .int .i64 0, .int .i64 0] _ _ rfl (Blk.new w _ 24) Try.underlying24 rfl (by kernel_rfl)) rfl ?_
  exact ⟨rfl, below_alloc _ _⟩

theorem bin_any (w : World) : Calls Try.prog 19 #[.int .i64 9, .agg #[.int .i64 5, .int .i64 2, .string ⟨#[]⟩, .slice none 0 0, .int .i64 0, .int .i64 0], .agg #[.int .i64 5, .int .i64 3, .string ⟨#[]⟩, .slice none 0 0, .int .i64 0, .int .i64 0]] w (fun e w' => ∃ b, e = .returned (.agg #[.int .i64 10, .int .i64 9, .string ⟨#[]⟩, .slice (some ⟨b, 0, none⟩) 2 2, .int .i64 0, .int .i64 0]) ∧ te.Vn.Rd w' ⟨⟨10, 9, ⟨#[]⟩, 0, 0⟩, some ⟨b, 0, none⟩, 2, 2, [(leaf 5 2).tr, (leaf 5 3).tr]⟩ ∧ Below w.heap.size w w') := by
  go_enter Try.func19, Try.ntmps19
  go_wp2
  try simp only [Exit.inBlock, Exit.then]
  generalize hA : w.alloc (.cells #[.int .i64 5, .int .i64 2, .string ⟨#[]⟩, .slice none 0 0, .int .i64 0, .int .i64 0] 24) = A
  generalize hB : A.alloc (.cells #[.int .i64 5, .int .i64 3, .string ⟨#[]⟩, .slice none 0 0, .int .i64 0, .int .i64 0] 24) = B
  have sA : A.heap.size = w.heap.size + 1 := by rw [← hA, te.size_alloc]
  have sB : B.heap.size = w.heap.size + 1 + 1 := by rw [← hB, te.size_alloc, sA]
  have bB : Below w.heap.size w B := by
    rw [← hB, ← hA]
    exact ((Below.refl _ _).alloc (Nat.le_refl _) _).alloc (by rw [te.size_alloc]; omega) _
  generalize hC : B.alloc (.cells #[.int .i64 10, .int .i64 9, .string ⟨#[]⟩, .slice (some ⟨w.heap.size + 1 + 1 + 1, 0, none⟩) 2 2, .int .i64 0, .int .i64 0] 24) = C
  have sC : C.heap.size = w.heap.size + 1 + 1 + 1 := by rw [← hC, te.size_alloc, sB]
  have bC : Below w.heap.size w C := by rw [← hC]; exact bB.alloc (by omega) _
  have hR : Blk C (w.heap.size + 1 + 1) #[.int .i64 10, .int .i64 9, .string ⟨#[]⟩, .slice (some ⟨w.heap.size + 1 + 1 + 1, 0, none⟩) 2 2, .int .i64 0, .int .i64 0] 24 := by
    have := Blk.new B #[.int .i64 10, .int .i64 9, .string ⟨#[]⟩, .slice (some ⟨w.heap.size + 1 + 1 + 1, 0, none⟩) 2 2, .int .i64 0, .int .i64 0] 24
    rwa [hC, sB] at this
  have hL := Blk.new C #[.int .i64 5, .int .i64 2, .string ⟨#[]⟩, .slice none 0 0, .int .i64 0, .int .i64 0, .int .i64 5, .int .i64 3, .string ⟨#[]⟩, .slice none 0 0, .int .i64 0, .int .i64 0] 24
  have hR2 := hR.below (below_alloc C (.cells #[.int .i64 5, .int .i64 2, .string ⟨#[]⟩, .slice none 0 0, .int .i64 0, .int .i64 0, .int .i64 5, .int .i64 3, .string ⟨#[]⟩, .slice none 0 0, .int .i64 0, .int .i64 0] 24))
  have bD : Below w.heap.size w (C.alloc (.cells #[.int .i64 5, .int .i64 2, .string ⟨#[]⟩, .slice none 0 0, .int .i64 0, .int .i64 0, .int .i64 5, .int .i64 3, .string ⟨#[]⟩, .slice none 0 0, .int .i64 0, .int .i64 0] 24)) := bC.alloc (by omega) _
  rw [sC] at hL
  generalize C.alloc (.cells #[.int .i64 5, .int .i64 2, .string ⟨#[]⟩, .slice none 0 0, .int .i64 0, .int .i64 0, .int .i64 5, .int .i64 3, .string ⟨#[]⟩, .slice none 0 0, .int .i64 0, .int .i64 0] 24) = D at hL hR2 bD ⊢
  refine bodyPost_ret (results_cell_row rfl _ _ (w.heap.size + 1 + 1) _ _ _ _ rfl hR2 Try.underlying24 rfl (by kernel_rfl)) rfl ?_
  have lr : ∀ n : Int, te.I64 n → (leaf 5 n).Rd D := fun n hn => leaf_rd (by unfold te.I64; omega) hn D
  refine ⟨w.heap.size + 1 + 1 + 1, rfl, ⟨⟨rfl, Nat.le_refl _, by show 2 ≤ _; omega, by simp, .inr ⟨_, _, rfl, hL.lt, fun i x hi => ?_⟩⟩, ⟨show te.I64 10 from by unfold te.I64; omega, show te.I64 9 from by unfold te.I64; omega, i64_0, i64_0⟩⟩, bD⟩
  match i with
  | 0 =>
    cases hi
    rw [Nat.zero_mul, Nat.zero_add]
    exact VA.intro (v := leaf 5 2) (lr 2 ⟨by decide, by decide⟩) ⟨hL.cell 0, hL.cell 3, hL.cell 1, hL.cell 2, hL.cell 4, hL.cell 5⟩
  | 1 =>
    cases hi
    rw [Nat.one_mul, Nat.zero_add]
    exact VA.intro (v := leaf 5 3) (lr 3 ⟨by decide, by decide⟩) ⟨hL.cell 6, hL.cell 9, hL.cell 7, hL.cell 8, hL.cell 10, hL.cell 11⟩
  | i + 2 => simp at hi

theorem two_23 : two 9 5 2 3 = some (5, 5) := by
  unfold two
  rw [tw_add]
  show (if (0 : Int) = 0 then (if (9 : Int) ≤ 9 ∧ (9 : Int) ≤ 13 then (if (5 : Int) = 5 then some ((5 : Int), wrap64 (2 + 3)) else none) else _) else none) = _
  rw [if_pos rfl, if_pos ⟨by omega, by omega⟩, if_pos rfl, ariths.wr_in _ (by omega) (by omega)]
  rfl
theorem fv_23 : fv 10 9 ⟨#[]⟩ [(leaf 5 2).tr, (leaf 5 3).tr] = some (5, 5) := by
  have hl : ∀ p ∈ [(leaf 5 2).tr, (leaf 5 3).tr], Lit p := fun p hp => by
    have l : ∀ n : Int, Lit (leaf 5 n).tr := fun n => show _ ∧ _ from ⟨rfl, rfl, Or.inl rfl⟩
    rcases List.mem_cons.1 hp with h | hp
    · rw [h]; exact l 2
    · rcases List.mem_cons.1 hp with h | hp
      · rw [h]; exact l 3
      · cases hp
  unfold fv
  have hc : (⟨#[]⟩ : ByteArray) = ⟨#[]⟩ ∧ ∀ p ∈ [(leaf 5 2).tr, (leaf 5 3).tr], Lit p := ⟨rfl, hl⟩
  rw [if_pos hc, ← two_23]
  show (if (10 : Int) = 10 ∧ (5 : Int) = 5 then two 9 5 2 3 else none) = _
  exact if_pos ⟨rfl, rfl⟩

theorem tw_in (op a b : Int) : I6 (tw op a b).1 ∧ I6 (tw op a b).2.2 := by
  by_cases h9 : op = 9
  · subst h9
    rw [tw_add]
    exact ⟨ariths.wrap64_bd _, show I6 0 from by unfold I6; omega⟩
  by_cases h : I6 a ∧ I6 b
  · exact (tw_tells op a b h.1 h.2).2
  · unfold tw
    rw [if_neg h9, dif_neg h]
    exact ⟨show I6 0 from by unfold I6; omega, show I6 0 from by unfold I6; omega⟩

theorem one_in {op ka a p q : Int} (h : one op ka a = some (p, q)) : te.I64 p ∧ te.I64 q := by
  unfold one at h
  split at h
  · rename_i hc
    simp only [Option.some.injEq, Prod.mk.injEq] at h
    rw [← h.1, ← h.2]
    exact ⟨by unfold te.I64; omega, (tw_in op a 0).2⟩
  · cases h
theorem two_in {op ka a b p q : Int} (h : two op ka a b = some (p, q)) : te.I64 p ∧ te.I64 q := by
  have hx : te.I64 (tw op a b).1 := (tw_in op a b).1
  unfold two at h
  (repeat' split at h) <;> first
    | (cases h; done)
    | (simp only [Option.some.injEq, Prod.mk.injEq] at h
       rw [← h.1, ← h.2]
       exact ⟨by unfold te.I64; omega, hx⟩)
theorem fv2_in {k n p q : Int} {l : List VT} (h : fv2 k n l = some (p, q)) : te.I64 p ∧ te.I64 q := by
  match l, h with
  | [], h => cases h
  | [a], h =>
    unfold fv2 at h
    dsimp only at h
    split at h
    · exact one_in h
    · cases h
  | [a, b], h =>
    unfold fv2 at h
    dsimp only at h
    split at h
    · exact two_in h
    · cases h
  | a :: b :: c :: t, h => cases h
theorem fv_in {k n p q : Int} {s : ByteArray} {l : List VT} (h : fv k n s l = some (p, q)) : te.I64 p ∧ te.I64 q := by
  unfold fv at h
  split at h
  · exact fv2_in h
  · cases h
theorem lv_rd {k n : Int} {s : ByteArray} {l : List VT} {o : Option (Int × Int)} (h : fv k n s l = o) (w : World) : (lv o).Rd w := by
  match o, h with
  | some (p, q), h => exact leaf_rd (fv_in h).1 (fv_in h).2 w
  | none, h => exact v0_rd w

theorem awake27 (w : World) : Calls Try.prog 7 #[] w fun e w' => e = .returned (.bool true) ∧ Below w.heap.size w w' := by
  go_enter Try.func7, Try.ntmps7
  go_wp2_with fail
  refine (num_any 2 _).mono ?_
  rintro e w1 ⟨rfl, hb1⟩
  have HB1 := Lib.hid hb1
  clear hb1
  go_wp2_with fail
  refine (num_any 3 _).mono ?_
  rintro e w2 ⟨rfl, hb2⟩
  have HB2 := Lib.hid (HB1.out.trans (hb2.mono HB1.out.size))
  clear hb2
  go_wp2_with fail
  refine (bin_any _).mono ?_
  rintro e w3 ⟨b, rfl, hr, hb3⟩
  have HB3 := Lib.hid (HB2.out.trans (hb3.mono HB2.out.size))
  have HR := Lib.hid hr
  clear hb3 hr
  go_wp2_with fail
  refine (pvalue_any ⟨⟨10, 9, ⟨#[]⟩, 0, 0⟩, some ⟨b, 0, none⟩, 2, 2, [(leaf 5 2).tr, (leaf 5 3).tr]⟩ _ HR.out).mono ?_
  rintro e w4 ⟨rfl, hb4⟩
  have HB4 := Lib.hid (HB3.out.trans (hb4.mono HB3.out.size))
  clear hb4
  dsimp only
  rw [fv_23]
  have HB5 := Lib.hid (HB4.out.alloc HB4.out.size (.cells #[.int .i64 5, .int .i64 5, .string ⟨#[]⟩, .slice none 0 0, .int .i64 0, .int .i64 0] 24))
  unfold lv leaf te.Vn.val
  go_wp2
  go_ret
  exact ⟨rfl, HB5.out⟩
end Go.Proofs.Ytjmjillfclfkgaa.fo
