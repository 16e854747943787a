/-
  Layer 46: the contract of the document's 'Read': what cannot be read.
-/
import Derived.Test.YtcncfljpbbpaoaaEntryRead
namespace Go.Proofs.Ytcncfljpbbpaoaa.en
open Go.ChangeShapes Go.WideShapes Go.ChangeAt Go.RowKit
open bs
set_option linter.unusedVariables false

theorem own2 (w : World) (o1 o2 : Obj) : OwnB (((w.alloc o1).alloc o2).alloc (.cells #[] 5)) w.heap.size 5 (some ⟨w.heap.size + 1 + 1, 0, none⟩) 0 0 [] := by
  simpa using OwnB.made ((w.alloc o1).alloc o2) w.heap.size 5 [] #[] rfl (by simp; omega) (by simp [maxLen]) (by simp [AllB])
theorem below3 (w : World) (o1 o2 o3 : Obj) : Below w.heap.size w (((w.alloc o1).alloc o2).alloc o3) := by
  refine Below.alloc (Below.alloc ((Below.refl _ _).alloc (Nat.le_refl _) _) ?_ _) ?_ _ <;> simp <;> omega

set_option maxRecDepth 100000 in
set_option maxHeartbeats 2000000 in
theorem ref_range (a : Option Addr) (n c : Nat) (l : List Int) (p : Int) (w : World) (h : Bytes w a n c l) (p0 : -9223372036854775808 ≤ p) (p1 : p ≤ 9223372036854775807) (hp : p < 0 ∨ (n : Int) < p) :
    Calls Try.prog 35 #[.slice a n c, .int .i64 p] w (RPost l p w) := by
  have hlen := h.len
  subst hlen
  have hcap := h.cap; have hmost := h.most
  have hE : rdE l p = 13 := by unfold rdE; rw [if_pos hp]
  have HE := Lib.hid hE
  clear h hE
  by_cases h0 : p < 0
  · clear hp
    go_enter Try.func35, Try.ntmps35
    go_wp2
    refine bodyPost_ret (v := .tuple #[.agg #[.int .i64 0, .slice none 0 0], .slice (some ⟨w.heap.size + 1 + 1, 0, none⟩) 0 0, .int .i64 0, .int .i64 13]) (by simp [results, Try.results35, go_sem]) rfl ?_
    refine ⟨?_, 0, 0, none, some ⟨w.heap.size + 1 + 1, 0, none⟩, 0, 0, 0, 0, [], [], by rw [HE.out], OwnB.nil _ _ _, ?_, fun _ => ⟨rfl, rfl, rfl, rfl⟩, fun h => by rw [HE.out] at h; omega⟩
    · repeat refine Below.setCell ?_ (by simp) _
      exact below3 _ _ _ _
    · exact own2 _ _ _
  · have h1 : (l.length : Int) < p := by omega
    have d0 : decide (p < 0) = false := decide_eq_false h0
    clear hp
    go_enter Try.func35, Try.ntmps35
    go_wp2
    refine bodyPost_ret (v := .tuple #[.agg #[.int .i64 0, .slice none 0 0], .slice (some ⟨w.heap.size + 1 + 1, 0, none⟩) 0 0, .int .i64 0, .int .i64 13]) (by simp [results, Try.results35, go_sem]) rfl ?_
    refine ⟨?_, 0, 0, none, some ⟨w.heap.size + 1 + 1, 0, none⟩, 0, 0, 0, 0, [], [], by rw [HE.out], OwnB.nil _ _ _, ?_, fun _ => ⟨rfl, rfl, rfl, rfl⟩, fun h => by rw [HE.out] at h; omega⟩
    · repeat refine Below.setCell ?_ (by simp) _
      exact below3 _ _ _ _
    · exact own2 _ _ _

set_option maxRecDepth 100000 in
set_option maxHeartbeats 2000000 in
theorem ref_short (a : Option Addr) (n c : Nat) (l : List Int) (i : Nat) (w : World) (h : Bytes w a n c l) (hn : n ≤ 4611686018427387904) (hi : i ≤ n) (h4 : n < i + 4) :
    Calls Try.prog 35 #[.slice a n c, .int .i64 i] w (RPost l i w) := by
  have hlen := h.len
  subst hlen
  have hcap := h.cap; have hmost := h.most
  have hE : rdE l i = 1 := by
    unfold rdE
    rw [if_neg (by omega), if_pos (by omega)]
  have HE := Lib.hid hE
  have d0 : decide ((i : Int) < 0) = false := decide_eq_false (by omega)
  have d1 : decide ((l.length : Int) < (i : Int)) = false := decide_eq_false (by omega)
  have d2 : (l.length : Int) - i < 4 := by omega
  clear h hE
  · go_enter Try.func35, Try.ntmps35
    go_wp2
    refine bodyPost_ret (v := .tuple #[.agg #[.int .i64 0, .slice none 0 0], .slice (some ⟨w.heap.size + 1 + 1, 0, none⟩) 0 0, .int .i64 0, .int .i64 1]) (by simp [results, Try.results35, go_sem]) rfl ?_
    refine ⟨?_, 0, 0, none, some ⟨w.heap.size + 1 + 1, 0, none⟩, 0, 0, 0, 0, [], [], by rw [HE.out], OwnB.nil _ _ _, ?_, fun _ => ⟨rfl, rfl, rfl, rfl⟩, fun h => by rw [HE.out] at h; omega⟩
    · repeat refine Below.setCell ?_ (by simp) _
      exact below3 _ _ _ _
    · exact own2 _ _ _

end Go.Proofs.Ytcncfljpbbpaoaa.en
