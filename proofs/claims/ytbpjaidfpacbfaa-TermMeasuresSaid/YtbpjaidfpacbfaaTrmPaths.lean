/-
  Layer 6: the paths of a term; the program's answer, and the document's.
-/
import Derived.Test.YtbpjaidfpacbfaaTrmKeepW
namespace Go.Proofs.Ytbpjaidfpacbfaa.te
open Go.ChangeShapes Go.WideShapes Go.ChangeAt Go.RowKit
open bs tr
set_option linter.unusedVariables false

/-- The answer is a slice of paths. -/
def LsP (L : List (List Int)) (w : World) (e : Ending) (w' : World) : Prop := ∃ (a : Option Addr) (n c : Nat), e = .returned (.slice a n c) ∧ WR w' a n c L ∧ Below w.heap.size w w'

set_option maxRecDepth 100000 in
set_option maxHeartbeats 2000000 in
theorem paths_any (a : Vn) (w : World) (ha : a.Rd w) (hsz : a.tr.size ≤ 100000) : Calls Try.prog 12 #[a.val] w (LsP (pt a.tr) w) := by
  have hW1 : Below w.heap.size w ((w.alloc (.cells #[.int .i64 a.x.k, .int .i64 a.x.n, .string a.x.s, .slice a.a a.m a.c, .int .i64 a.x.f, .int .i64 a.x.t] 24)).alloc (.cells #[.int .i64 0, .int .i64 0, .slice none 0 0] 64)) := ((Below.refl _ _).alloc (Nat.le_refl _) _).alloc (by simp) _
  have hZ : VB ((w.alloc (.cells #[.int .i64 a.x.k, .int .i64 a.x.n, .string a.x.s, .slice a.a a.m a.c, .int .i64 a.x.f, .int .i64 a.x.t] 24)).alloc (.cells #[.int .i64 0, .int .i64 0, .slice none 0 0] 64)) w.heap.size a := (vb_new w a).below (below_alloc _ _)
  have hT : Blk ((w.alloc (.cells #[.int .i64 a.x.k, .int .i64 a.x.n, .string a.x.s, .slice a.a a.m a.c, .int .i64 a.x.f, .int .i64 a.x.t] 24)).alloc (.cells #[.int .i64 0, .int .i64 0, .slice none 0 0] 64)) (w.heap.size + 1) #[.int .i64 0, .int .i64 0, .slice none 0 0] 64 := by
    have := Blk.new (w.alloc (.cells #[.int .i64 a.x.k, .int .i64 a.x.n, .string a.x.s, .slice a.a a.m a.c, .int .i64 a.x.f, .int .i64 a.x.t] 24)) #[.int .i64 0, .int .i64 0, .slice none 0 0] 64
    rwa [size_alloc] at this
  have hWS : tk.WS ((w.alloc (.cells #[.int .i64 a.x.k, .int .i64 a.x.n, .string a.x.s, .slice a.a a.m a.c, .int .i64 a.x.f, .int .i64 a.x.t] 24)).alloc (.cells #[.int .i64 0, .int .i64 0, .slice none 0 0] 64)) (w.heap.size + 1) (.int .i64 0) (.int .i64 0) none 0 0 [] none 0 [] :=
    ⟨OwnI.nil _ _ _, hT, ⟨[], Pths.nil _ _ _, rfl⟩, fun i hi => by cases hi⟩
  have HW := Lib.hid hW1; have HZ := Lib.hid hZ; have HS := Lib.hid hWS
  have HA := Lib.hid (ha.rs)
  clear ha hW1 hZ hT hWS
  have hmf : ∀ (fn : Fn) (first cap : Array Value) (w : World), (Instr.makeFunc fn first cap).run Try.prog w = .ok (.func fn first cap) w := fun _ _ _ _ => rfl
  unfold Vn.val
  go_enter Try.func12, Try.ntmps12
  go_upto_region 2 with fail
  generalize hWW : ((w.alloc (.cells #[.int .i64 a.x.k, .int .i64 a.x.n, .string a.x.s, .slice a.a a.m a.c, .int .i64 a.x.f, .int .i64 a.x.t] 24)).alloc (.cells #[.int .i64 0, .int .i64 0, .slice none 0 0] 64)) = W at HW HZ HS ⊢
  clear hWW
  go_wp2_with (refine wpList_load_T rfl _ rfl rfl HZ.out ?_)
  refine (tk.walk_any (w.heap.size + 1) w.heap.size (by omega) (.int .i64 0) (.int .i64 0) a.tr a W none 0 0 [] none 0 [] rfl (HA.out.below HW.out) HS.out (by simp; omega) (by omega)).mono ?_
  rintro e w2 ⟨a2, c2, ka, kc, rfl, hs2, ht2, hl2, hk2⟩
  have HB := Lib.hid (HW.out.trans (ht2.below HW.out.size (fun i h => by have := (HS.out.ltw i h).1; omega)))
  have e0 : ([] : List (List Int)) ++ (pt a.tr).map (fun q => [] ++ q) = pt a.tr := by simp
  rw [e0] at hs2
  have p0 := hs2.blk.cell 2
  simp at p0
  obtain ⟨K, hK, hKM⟩ := hs2.kept
  have hrd := hK.reads
  rw [hKM] at hrd
  have HR := Lib.hid hrd
  obtain ⟨m, hm⟩ : ∃ m, (pt a.tr).length = m := ⟨_, rfl⟩
  rw [hm] at p0 HR
  clear hs2 ht2 hl2 hk2 hmf hK hKM hrd e0 hm
  go_wp2
  go_ret
  exact ⟨ka, m, kc, rfl, HR.out, HB.out⟩
end Go.Proofs.Ytbpjaidfpacbfaa.te
