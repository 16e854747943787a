/-
  Layer 6: how large a term is; the program answers.
-/
import Derived.Test.YtbpjaidfpacbfaaTrmWalk
namespace Go.Proofs.Ytbpjaidfpacbfaa.te
open Go.ChangeShapes Go.WideShapes Go.ChangeAt Go.RowKit
open bs tr
set_option linter.unusedVariables false

def ZP (n : Nat) (w : World) (e : Ending) (w' : World) : Prop := e = .returned (.int .i64 (n : Int)) ∧ Below w.heap.size w w'

set_option maxRecDepth 100000 in
set_option maxHeartbeats 2000000 in
theorem size_any (a : Vn) (w : World) (ha : a.Rd w) (hsz : a.tr.size ≤ 100000) : Calls Try.prog 14 #[a.val] w (ZP a.tr.size w) := by
  have hW1 : Below w.heap.size w ((w.alloc (.cells #[.int .i64 a.x.k, .int .i64 a.x.n, .string a.x.s, .slice a.a a.m a.c, .int .i64 a.x.f, .int .i64 a.x.t] 24)).alloc (.cells #[.int .i64 0, .int .i64 0, .slice none 0 0] 64)) := ((Below.refl _ _).alloc (Nat.le_refl _) _).alloc (by simp) _
  have hZ : VB ((w.alloc (.cells #[.int .i64 a.x.k, .int .i64 a.x.n, .string a.x.s, .slice a.a a.m a.c, .int .i64 a.x.f, .int .i64 a.x.t] 24)).alloc (.cells #[.int .i64 0, .int .i64 0, .slice none 0 0] 64)) w.heap.size a := (vb_new w a).below (below_alloc _ _)
  have hT : Blk ((w.alloc (.cells #[.int .i64 a.x.k, .int .i64 a.x.n, .string a.x.s, .slice a.a a.m a.c, .int .i64 a.x.f, .int .i64 a.x.t] 24)).alloc (.cells #[.int .i64 0, .int .i64 0, .slice none 0 0] 64)) (w.heap.size + 1) #[.int .i64 ((0 : Nat) : Int), .int .i64 0, .slice none 0 0] 64 := by
    have := Blk.new (w.alloc (.cells #[.int .i64 a.x.k, .int .i64 a.x.n, .string a.x.s, .slice a.a a.m a.c, .int .i64 a.x.f, .int .i64 a.x.t] 24)) #[.int .i64 0, .int .i64 0, .slice none 0 0] 64
    rwa [size_alloc] at this
  have HW := Lib.hid hW1; have HZ := Lib.hid hZ; have HT := Lib.hid hT
  have HA := Lib.hid (ha.rs)
  clear ha hW1 hZ hT
  have hmf : ∀ (fn : Fn) (first cap : Array Value) (w : World), (Instr.makeFunc fn first cap).run Try.prog w = .ok (.func fn first cap) w := fun _ _ _ _ => rfl
  unfold Vn.val
  go_enter Try.func14, Try.ntmps14
  go_upto_region 2 with fail
  generalize hWW : ((w.alloc (.cells #[.int .i64 a.x.k, .int .i64 a.x.n, .string a.x.s, .slice a.a a.m a.c, .int .i64 a.x.f, .int .i64 a.x.t] 24)).alloc (.cells #[.int .i64 0, .int .i64 0, .slice none 0 0] 64)) = W at HW HZ HT ⊢
  clear hWW
  go_wp2_with (refine wpList_load_T rfl _ rfl rfl HZ.out ?_)
  refine (walk_any (w.heap.size + 1) w.heap.size (by omega) (.int .i64 0) (.slice none 0 0) a.tr a W none 0 0 [] 0 rfl (HA.out.below HW.out) HT.out (OwnI.nil _ _ _) (by omega) (by omega)).mono ?_
  rintro e w2 ⟨a2, c2, rfl, ho2, hb2, ht2, hl2⟩
  have HB := Lib.hid (HW.out.trans (ht2.below HW.out.size (by omega) (fun i h => by cases h)))
  rw [Nat.zero_add] at hb2
  have p0 := hb2.cell 0
  simp at p0
  clear ho2 hb2 ht2 hl2 hmf
  go_wp2
  go_ret
  exact ⟨rfl, HB.out⟩

set_option maxRecDepth 100000 in
set_option maxHeartbeats 2000000 in
theorem awake_any (w : World) : Calls Try.prog 11 #[] w fun e w' => e = .returned (.bool true) ∧ Below w.heap.size w w' := by
  have hb : Below w.heap.size w (w.alloc (.cells #[.int .i64 0, .int .i64 0, .string ⟨#[]⟩, .slice none 0 0, .int .i64 0, .int .i64 0] 24)) := below_alloc _ _
  have hX : VB (w.alloc (.cells #[.int .i64 0, .int .i64 0, .string ⟨#[]⟩, .slice none 0 0, .int .i64 0, .int .i64 0] 24)) w.heap.size v0 := vb_new0 w
  have HB := Lib.hid hb; have HX := Lib.hid hX
  clear hb hX
  go_enter Try.func11, Try.ntmps11
  go_wp2_with fail
  generalize hWW : w.alloc (.cells #[.int .i64 0, .int .i64 0, .string ⟨#[]⟩, .slice none 0 0, .int .i64 0, .int .i64 0] 24) = W at HB HX ⊢
  clear hWW
  have hv : Vn.Rd W ⟨lab0, some ⟨w.heap.size, 0, none⟩, 1, 1, [v0.tr]⟩ := by
    refine ⟨⟨rfl, Nat.le_refl _, by show 1 ≤ _; omega, by simp, .inr ⟨_, _, rfl, HX.out.lt, fun i x hi => ?_⟩⟩, ⟨i64_0, i64_0, i64_0, i64_0⟩⟩
    match i with
    | 0 =>
      cases hi
      rw [Nat.zero_mul, Nat.zero_add]
      exact VA.intro (v0_rd _) ⟨HX.out.cell 0, HX.out.cell 3, HX.out.cell 1, HX.out.cell 2, HX.out.cell 4, HX.out.cell 5⟩
    | i + 1 => simp at hi
  have hsz : (Vn.tr ⟨lab0, some ⟨w.heap.size, 0, none⟩, 1, 1, [v0.tr]⟩).size = 2 := by
    show Tr.size (.mk lab0 [.mk lab0 []]) = 2
    simp [Tr.size_mk]
  refine (size_any ⟨lab0, some ⟨w.heap.size, 0, none⟩, 1, 1, [v0.tr]⟩ W hv (by rw [hsz]; omega)).mono ?_
  rintro e w2 ⟨rfl, hb2⟩
  rw [hsz]
  have HB2 := Lib.hid (HB.out.trans (hb2.mono HB.out.size))
  clear hb2 hv hsz
  go_wp2_with fail
  refine (like_any v0.tr v0 v0 _ rfl (v0_rd _) (v0_rd _)).mono ?_
  rintro e w3 ⟨r, rfl, hr, hb3⟩
  obtain rfl : r = true := hr.2 rfl
  have HB3 := Lib.hid (HB2.out.trans (hb3.mono HB2.out.size))
  clear hb3 hr
  go_wp2
  go_ret
  exact ⟨rfl, HB3.out⟩
end Go.Proofs.Ytbpjaidfpacbfaa.te
