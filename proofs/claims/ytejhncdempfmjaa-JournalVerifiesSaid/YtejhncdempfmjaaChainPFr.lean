/-
  Layer 47: the program's frames: all frames of a log, and what is wrong behind them.
-/
import Derived.Test.YtejhncdempfmjaaChainAlong
namespace Go.Proofs.Ytejhncdempfmjaa.ch
open Go.ChangeShapes Go.WideShapes Go.ChangeAt Go.RowKit
open bs en
set_option linter.unusedVariables false

/-- Behind j frames: what the captured slice holds. -/
def FrI (l : List Int) (B g : Nat) (W0 : World) (j : Nat) (w : World) : Prop :=
  Below B W0 w ∧ ∃ (L : List Fw) (al : Option Addr) (cl : Nat), Blk w g #[.slice al j cl] 92 ∧ OwnS 3 fCells w B 85 al j cl L ∧ (∀ x ∈ L, FwOwn w B x) ∧ Told L (fm l)
def NoR (j : Nat) (E : Int) (w : World) : Prop := False
def DPost (l : List Int) (I : Nat → World → Prop) (R : Nat → Int → World → Prop) (j : Nat) (e : Ending) (w' : World) : Prop := ∃ E : Int, e = .returned (.int .i64 E) ∧ (E = 0 → I (j + 1) w') ∧ (E ≠ 0 → R j E w')

set_option maxRecDepth 100000 in
set_option maxHeartbeats 2000000 in
theorem fdone_any (l : List Int) (B g : Nat) (W0 : World) (hW : W0.heap.size = B) (hg : B ≤ g) (hn : l.length ≤ 100000) (j : Nat) (w : World) (x : Fw) (hI : FrI l B g W0 j w) (hj : j ≤ 100000) (hx : FwOwn w B x) (ht : Tells x (fm l j)) (hxn : x.n = 32) :
    Calls Try.prog 84 #[x.val, .pointer (some ⟨g, 0, none⟩)] w (DPost l (FrI l B g W0) NoR j) := by
  obtain ⟨hb, L, al, cl, h1, h2, h3, h4⟩ := hI
  have HB := Lib.hid hb; have H1 := Lib.hid h1; have H2 := Lib.hid h2; have H3 := Lib.hid h3; have H4 := Lib.hid h4; have HX := Lib.hid hx; have HT := Lib.hid ht
  have hlt := h1.lt
  have hsz : B ≤ w.heap.size := by have := hb.size; omega
  clear hb h1 h2 h3 h4 hx ht hxn hW
  have HW1 : Hid (Below w.heap.size w ((w.alloc (.cells #[.int .i64 x.e.k, .slice x.e.a x.e.n x.e.c, .slice x.a x.n x.c] 85)).alloc (.cells #[.int .i64 x.e.k, .slice x.e.a x.e.n x.e.c, .slice x.a x.n x.c] 85))) := Lib.hid (((Below.refl _ _).alloc (Nat.le_refl _) _).alloc (by simp) _)
  have f0 : w.cell? ⟨g, 0, none⟩ = some (.slice al j cl) := H1.out.cell 0
  have hn1 : (j + 1) * 56 ≤ 140737488355328 := by omega
  have hm1 : j + 1 ≤ maxLen := by simp only [maxLen]; omega
  have hce := cells_f (w.alloc (.cells #[.int .i64 x.e.k, .slice x.e.a x.e.n x.e.c, .slice x.a x.n x.c] 85)) x
  rw [World.size_alloc] at hce
  have hlx : (fCells x).length = 3 := rfl
  have hox : ∀ u ∈ fCells x, u.oneCell' = true := by intro u hu; simp [fCells] at hu; rcases hu with rfl | rfl | rfl <;> rfl
  have HCE := Lib.hid hce; have HOX := Lib.hid hox; have HLX := Lib.hid hlx
  clear hce hox hlx
  unfold Fw.val
  go_enter Try.func84, Try.ntmps84
  go_wp2_with (at_builtin; refine wpList_append_s2 fraT (by decide) rfl (.tmp 4) (.tmp 6) rfl B rfl (H2.out.below HW1.out) rfl x HLX.out HOX.out HCE.out hn1 hm1 (Nat.le_trans hsz HW1.out.size) ?_)
  intro a2 c2 w2 ho2 hb2 hg2
  have hty := typed_s (H2.out.below HW1.out)
  have HK2 := Lib.hid (grown_blk (H1.out.below HW1.out) hty (by decide) hg2)
  have HF2 : Hid (∀ y ∈ L ++ [x], FwOwn w2 B y) := Lib.hid (fun y hy => by
    rcases List.mem_append.1 hy with hy | hy
    · exact grown_f ((H3.out y hy).below HW1.out) hty (by decide) hg2
    · simp only [List.mem_singleton] at hy
      subst hy
      exact grown_f (HX.out.below HW1.out) hty (by decide) hg2)
  have HO2 := Lib.hid ho2
  have HB2 := Lib.hid ((HB.out.trans (HW1.out.mono hsz)).trans hb2)
  have q0 : w2.cell? ⟨g, 0, none⟩ = some (.slice al j cl) := HK2.out.cell 0
  have q1 : w2.frozen? ⟨g, 0, none⟩ = false := HK2.out.free 0
  clear ho2 hb2 hg2 hty HCE HOX HLX f0
  go_wp2
  go_ret
  have hS : Below w2.heap.size w2 w2 := Below.refl _ _
  refine ⟨0, rfl, fun _ => ⟨HB2.out.setCell (by exact hg) _, L ++ [x], a2, c2, ?_, ?_, ?_, ?_⟩, fun h => absurd rfl h⟩
  · have := HK2.out.set 0 (.slice a2 (j + 1) c2)
    simpa using this
  · exact OwnS.of HO2.out (fun i hi => by
      have hne := typed_ne (typed_s HO2.out) (typed_blk HK2.out) (by decide) hi
      exact heap_setCell_other _ _ _ _ (fun q => hne (by rw [q]; rfl)))
  · intro y hy
    have hY := HF2.out y hy
    refine ⟨hY.body.of (fun i hi => ?_), hY.tag.of (fun i hi => ?_), hY.k0, hY.k1⟩
    · have hne := typed_ne (typed_b hY.body) (typed_blk HK2.out) (by decide) hi
      exact heap_setCell_other _ _ _ _ (fun q => hne (by rw [q]; rfl))
    · have hne := typed_ne (typed_b hY.tag) (typed_blk HK2.out) (by decide) hi
      exact heap_setCell_other _ _ _ _ (fun q => hne (by rw [q]; rfl))
  · refine H4.out.snoc ?_
    rw [H2.out.num]
    exact HT.out

theorem FrI.stays {l : List Int} {B g : Nat} {W0 : World} {j : Nat} {w w' : World} (hW : W0.heap.size = B) (h : FrI l B g W0 j w) (hb : Below w.heap.size w w') : FrI l B g W0 j w' := by
  obtain ⟨h0, L, al, cl, h1, h2, h3, h4⟩ := h
  have hsz : B ≤ w.heap.size := by have := h0.size; omega
  exact ⟨h0.trans (hb.mono hsz), L, al, cl, h1.below hb, h2.below hb, fun x hx => (h3 x hx).below hb, h4⟩

theorem enters_f (args : Array Value) (W : World) : Sem.run Try.prog (callFunc 84 args) W = .ok (.enter 84 args) W := by
  have h1 : ¬ (Try.f84.name = "runtime.NumGoroutine") := by decide +kernel
  have h2 : ¬ (Try.f84.body = none) := by
    have h : Try.f84.body.isNone = false := by kernel_rfl
    intro q
    rw [q] at h
    cases h
  simp [callFunc, Try.func84, go_sem, h1, h2]

def PFPost (l : List Int) (w : World) (e : Ending) (w' : World) : Prop :=
  Below w.heap.size w w' ∧ ∃ (j : Nat) (L : List Fw) (al : Option Addr) (cl : Nat) (E : Int), e = .returned (.tuple #[.slice al j cl, .int .i64 E]) ∧ Ends l j E ∧
    OwnS 3 fCells w' w.heap.size 85 al j cl L ∧ (∀ x ∈ L, FwOwn w' w.heap.size x) ∧ Told L (fm l)

set_option maxRecDepth 100000 in
set_option maxHeartbeats 2000000 in
theorem frames_any (a : Option Addr) (n c : Nat) (l : List Int) (w : World) (h : Bytes w a n c l) (hn : n ≤ 100000) :
    Calls Try.prog 61 #[.slice a n c] w (PFPost l w) := by
  have hcap := h.cap; have hmost := h.most; have hlen := h.len
  have hmf : ∀ (fn : Fn) (first cap : Array Value) (w : World), (Instr.makeFunc fn first cap).run Try.prog w = .ok (.func fn first cap) w := fun _ _ _ _ => rfl
  have H := Lib.hid h
  have HLE := Lib.hid hlen
  have hHA := h.all
  have HA := Lib.hid hHA
  clear h hlen hHA
  have hD : DoneBy 84 #[.pointer (some ⟨w.heap.size, 0, none⟩)] l w.heap.size w (FrI l w.heap.size w.heap.size w) NoR :=
    ⟨fun args W => enters_f args W, fun j w1 h => h.1, fun j w1 w2 h hb => h.stays rfl hb,
     fun j w1 x hI hU _ _ hx ht hxn => fdone_any l w.heap.size w.heap.size w rfl (Nat.le_refl _) (by rw [HLE.out]; exact hn) j w1 x hI (by have h1 := at_ge (l := l) j; have h2 := at_le HA.out j hU; rw [HLE.out] at h2; omega) hx ht hxn⟩
  have HD := Lib.hid hD
  have hI0 : FrI l w.heap.size w.heap.size w 0 (w.alloc (.cells #[.slice none 0 0] 92)) :=
    ⟨(Below.refl _ _).alloc (Nat.le_refl _) _, [], none, 0, Blk.new w _ _, OwnS.nil _ _ _, by simp, fun i x h => by simp at h⟩
  have HI0 := Lib.hid hI0
  clear hD hI0
  go_enter Try.func61, Try.ntmps61
  go_wp2_with fail
  refine (along_any 84 #[.pointer (some ⟨w.heap.size, 0, none⟩)] a n c l w.heap.size w (FrI l w.heap.size w.heap.size w) NoR rfl H.out hn HD.out _ HI0.out).mono ?_
  rintro e w1 ⟨j, E, rfl, hU, hcase⟩
  have hE : Ends l j E ∧ FrI l w.heap.size w.heap.size w j w1 := by
    rcases hcase with ⟨h1, h2, h3⟩ | ⟨h1, h2, h3, h4⟩ | ⟨_, _, _, h4⟩
    · exact ⟨⟨hU, .inl ⟨h1, h2⟩⟩, h3⟩
    · exact ⟨⟨hU, .inr ⟨h1, h2, h3⟩⟩, h4⟩
    · exact h4.elim
  obtain ⟨he, hb, L, al, cl, h1, h2, h3, h4⟩ := hE
  have q0 : w1.cell? ⟨w.heap.size, 0, none⟩ = some (.slice al j cl) := h1.cell 0
  have HE := Lib.hid he; have HB := Lib.hid hb; have H2 := Lib.hid h2; have H3 := Lib.hid h3; have H4 := Lib.hid h4
  clear he hb h1 h2 h3 h4 hU hcase hmf
  go_wp2
  go_ret2
  exact ⟨HB.out, j, L, al, cl, E, rfl, HE.out, H2.out, H3.out, H4.out⟩

end Go.Proofs.Ytejhncdempfmjaa.ch
