/-
  Layer 47: the program's Entries.
-/
import Derived.Test.YtejhncdempfmjaaChainPFr
import Derived.Test.YtejhncdempfmjaaHmacSame
import Derived.Deep.RegionHeld3
namespace Go.Proofs.Ytejhncdempfmjaa.ch
open Go.ChangeShapes Go.WideShapes Go.ChangeAt Go.RowKit
open bs en
open Go.Proofs.Ytejhncdempfmjaa.sh (tagB ptag_any rtag_any)
set_option linter.unusedVariables false

/-- Behind j frames: what is captured. -/
structure EnI (key l : List Int) (B k0 k2 : Nat) (W0 : World) (a0 : Option Addr) (n0 c0 : Nat) (j : Nat) (w : World) : Prop where
  below : Below B W0 w
  kblk : Blk w k0 #[.slice a0 n0 c0] 22
  ex : ∃ (L : List Fw) (al : Option Addr) (cl : Nat) (ax : Option Addr) (cx : Nat), Blk w (k0 + 1) #[.slice al j cl] 23 ∧ Blk w (k2) #[.slice ax 32 cx] 22 ∧ OwnS 2 eCells w B 35 al j cl L ∧
    (∀ x ∈ L, FwOwn w B x) ∧ Told L (fm l) ∧ OwnB w B 5 ax 32 cx (ahd (fm l) j)
  good : ∀ i, i < j → Good key (fm l) i
def EnR (key l : List Int) (B : Nat) (W0 : World) (j : Nat) (E : Int) (w : World) : Prop := Below B W0 w ∧ E = 29 ∧ ¬ Good key (fm l) j ∧ (∀ i, i < j → Good key (fm l) i)
theorem EnI.stays {key l : List Int} {B k0 k2 : Nat} {W0 : World} {a0 : Option Addr} {n0 c0 j : Nat} {w w' : World} (hW : W0.heap.size = B) (h : EnI key l B k0 k2 W0 a0 n0 c0 j w) (hb : Below w.heap.size w w') : EnI key l B k0 k2 W0 a0 n0 c0 j w' := by
  obtain ⟨h0, hk, ⟨L, al, cl, ax, cx, h1, h2, h3, h4, h5, h6⟩, hg⟩ := h
  have hsz : B ≤ w.heap.size := by have := h0.size; omega
  exact ⟨h0.trans (hb.mono hsz), hk.below hb, ⟨L, al, cl, ax, cx, h1.below hb, h2.below hb, h3.below hb, fun x hx => (h4 x hx).below hb, h5, h6.below hb⟩, hg⟩
theorem OwnB.otherBlk {w : World} {base e a n c l} (h : OwnB w base e a n c l) {g : Nat} {cs : Array Value} {t : TypeId} (hg : Blk w g cs t) (hne : e ≠ t) (v : Value) : OwnB (w.setCell ⟨g, 0, none⟩ v) base e a n c l :=
  h.of (fun i hi => by
    have h1 := typed_ne (typed_b h) (typed_blk hg) hne hi
    exact heap_setCell_other _ _ _ _ (fun q => h1 (by rw [q]; rfl)))
theorem OwnS.otherBlk {α : Type} {size : Nat} {cells : α → List Value} {w : World} {base e a n c} {l : List α} (h : OwnS size cells w base e a n c l) {g : Nat} {cs : Array Value} {t : TypeId} (hg : Blk w g cs t) (hne : e ≠ t) (v : Value) : OwnS size cells (w.setCell ⟨g, 0, none⟩ v) base e a n c l :=
  OwnS.of h (fun i hi => by
    have h1 := typed_ne (typed_s h) (typed_blk hg) hne hi
    exact heap_setCell_other _ _ _ _ (fun q => h1 (by rw [q]; rfl)))
theorem FwOwn.otherBlk {w : World} {base : Nat} {x : Fw} (h : FwOwn w base x) {g : Nat} {cs : Array Value} {t : TypeId} (hg : Blk w g cs t) (hne : 5 ≠ t) (v : Value) : FwOwn (w.setCell ⟨g, 0, none⟩ v) base x :=
  ⟨OwnB.otherBlk h.body hg hne v, OwnB.otherBlk h.tag hg hne v, h.k0, h.k1⟩

set_option maxRecDepth 100000 in
set_option maxHeartbeats 2000000 in
theorem edone_any (key l : List Int) (B k0 k2 : Nat) (W0 : World) (a0 : Option Addr) (n0 c0 : Nat) (hW : W0.heap.size = B) (hB : B ≤ k0) (hk2 : k0 + 1 < k2) (h0 : Bytes W0 a0 n0 c0 key) (hk : n0 ≤ 100000) (j : Nat) (w : World) (x : Fw) (hI : EnI key l B k0 k2 W0 a0 n0 c0 j w) (hj : j ≤ 100000) (hx : FwOwn w B x) (ht : Tells x (fm l j)) (hxn : x.n = 32) (hpay : payE x.e.k x.e.l.length = 0) (hxt : x.t.length = 32) :
    Calls Try.prog 56 #[x.val, .pointer (some ⟨k2, 0, none⟩), .pointer (some ⟨k0 + 1, 0, none⟩), .pointer (some ⟨k0, 0, none⟩)] w (DPost l (EnI key l B k0 k2 W0 a0 n0 c0) (EnR key l B W0) j) := by
  obtain ⟨hb, hkb, ⟨L, al, cl, ax, cx, h1, h2, h3, h4, h5, h6⟩, hgood⟩ := hI
  have HB := Lib.hid hb; have HKB := Lib.hid hkb; have H0 := Lib.hid h0; have H1 := Lib.hid h1; have H2 := Lib.hid h2; have H3 := Lib.hid h3; have H4 := Lib.hid h4; have H5 := Lib.hid h5; have H6 := Lib.hid h6; have HG := Lib.hid hgood
  have HX := Lib.hid hx; have HT := Lib.hid ht; have HPAY := Lib.hid hpay; have HXT := Lib.hid hxt; have HW := Lib.hid hW
  have hsz : B ≤ w.heap.size := by have := hb.size; omega
  have hlt0 := hkb.lt; have hlt1 := h1.lt; have hlt2 := h2.lt
  obtain ⟨⟨xk, xa, xn, xc, xl⟩, ya, yn, yc, yl⟩ := x
  dsimp only at hxn
  subst hxn
  have HXV : Hid ((Fw.mk ⟨xk, xa, xn, xc, xl⟩ ya 32 yc yl).val = .agg #[.int .i64 xk, .slice xa xn xc, .slice ya 32 yc]) := Lib.hid rfl
  clear hb hkb h0 h1 h2 h3 h4 h5 h6 hgood hx ht hpay hxt hW
  have f0 : w.cell? ⟨k2, 0, none⟩ = some (.slice ax 32 cx) := H2.out.cell 0
  have f1 : w.cell? ⟨k0 + 1, 0, none⟩ = some (.slice al j cl) := H1.out.cell 0
  rw [HXV.out]
  go_enter Try.func56, Try.ntmps56
  go_wp2_with fail
  have hW1 : Below w.heap.size w (w.alloc (.cells #[.int .i64 xk, .slice xa xn xc, .slice ya 32 yc] 85)) := (Below.refl _ _).alloc (Nat.le_refl _) _
  have hN : ((j : Int) + 1) = ((j + 1 : Nat) : Int) := by omega
  rw [hN]
  have HW1 := Lib.hid hW1
  clear hW1 hN
  refine (message_any ax 32 cx (ahd (fm l) j) _ xk xa xn xc xl _ (H6.out.below HW1.out).bytes (HX.out.below HW1.out).body.bytes HX.out.k0 HX.out.k1 (by omega) (by omega)).mono ?_
  rintro e w2 ⟨hb2, a2, m2, c2, r2, rfl, ho2, hr2⟩
  have hah : (ahd (fm l) j).length = 32 := H6.out.len
  have hms : msE (ahd (fm l) j).length xk xl.length = 0 := by unfold msE; rw [if_pos hah]; exact HPAY.out
  have hmg : r2 = mg (ahd (fm l) j) ((j + 1 : Nat) : Int) xk xl := by rw [hr2]; rfl
  rw [hms]
  have hm2 : m2 ≤ 100000 := by rw [← ho2.len, hmg]; have := mg_len (ahd (fm l) j) ((j + 1 : Nat) : Int) xk xl; omega
  have hsw := HW1.out.size
  have hs2 := hb2.size
  have HBW := Lib.hid (HW1.out.trans (hb2.mono hsw))
  have HO2 := Lib.hid ho2; have HMG := Lib.hid hmg
  have hmm : r2 = mgF (fm l) j := by rw [hmg, mgF, ← HT.out.k, ← HT.out.b]
  have HMM := Lib.hid hmm
  have hbx : ∀ V : World, Below w2.heap.size w2 V → V.cell? ⟨k0, 0, none⟩ = some (.slice a0 n0 c0) ∧ V.cell? ⟨w.heap.size, 2, none⟩ = some (.slice ya 32 yc) := fun V hV => by
    have hlw : w.heap.size < w2.heap.size := by
      have : w.heap.size < (w.alloc (.cells #[.int .i64 xk, .slice xa xn xc, .slice ya 32 yc] 85)).heap.size := by simp
      omega
    refine ⟨((HKB.out.below HBW.out).below hV).cell 0, ?_⟩
    rw [hV.cell (p := ⟨w.heap.size, 2, none⟩) hlw, hb2.cell (p := ⟨w.heap.size, 2, none⟩) (by simp)]
    simp
  have Keep := Lib.hid hbx
  have g0 := (Keep.out w2 (Below.refl _ _)).1
  have g2 := (Keep.out w2 (Below.refl _ _)).2
  have hbe : ∀ V : World, Below w2.heap.size w2 V → V.cell? ⟨w.heap.size, 0, none⟩ = some (.int .i64 xk) ∧ V.cell? ⟨w.heap.size, 1, none⟩ = some (.slice xa xn xc) := fun V hV => by
    have hlw : w.heap.size < w2.heap.size := by
      have : w.heap.size < (w.alloc (.cells #[.int .i64 xk, .slice xa xn xc, .slice ya 32 yc] 85)).heap.size := by simp
      omega
    refine ⟨?_, ?_⟩
    · rw [hV.cell (p := ⟨w.heap.size, 0, none⟩) hlw, hb2.cell (p := ⟨w.heap.size, 0, none⟩) (by simp)]
      simp
    · rw [hV.cell (p := ⟨w.heap.size, 1, none⟩) hlw, hb2.cell (p := ⟨w.heap.size, 1, none⟩) (by simp)]
      simp
  have KeepE := Lib.hid hbe
  have HX2 := Lib.hid (HX.out.below HBW.out)
  have HK2 := Lib.hid ((H0.out.below (by rw [HW.out]; exact HB.out)).below HBW.out)
  have HBX0 : Hid (Blk w2 w.heap.size #[.int .i64 xk, .slice xa xn xc, .slice ya 32 yc] 85) := Lib.hid ((Blk.new w _ _).below hb2)
  clear hb2 ho2 hr2 hah hms hmg hmm hbx hbe f0 f1
  go_wp2_with fail
  go_region_held3 (fun V => V.cell? ⟨k0, 0, none⟩ = some (.slice a0 n0 c0) ∧ V.cell? ⟨w.heap.size, 2, none⟩ = some (.slice ya 32 yc))
    (first | exact Keep.out _ (Below.refl _ _) | exact Keep.out _ (Below.drew (Below.refl _ _)) | exact Keep.out _ hS3 | exact Keep.out _ (below_drewN hS3 _))
    (first
      | (go_at_call 28; refine (ptag_any a0 n0 c0 key a2 m2 c2 r2 _ (HK2.out.below (Below.drew (Below.refl _ _))) (HO2.out.bytes.below (Below.drew (Below.refl _ _))) hk hm2).mono ?_; rintro e w3 ⟨a3, c3, rfl, ho3, hb3⟩; have hS3 : Below w2.heap.size w2 w3 := (Below.drew (Below.refl _ _)).trans hb3; have HO3 := Lib.hid ho3; clear ho3 hb3)
      | (go_at_call 57; refine (psame_any _ _ _ (tagB key r2) _ _ _ yl _ (OwnB.bytes (Hid.out HO3)) ((HX2.out.below hS3).tag.bytes)).mono ?_; rintro e w4 ⟨rfl, m4, rfl⟩))
  have hB4 : Below w2.heap.size w2 (w3.drewN m4) := below_drewN hS3 m4
  clear hS3 HO3
  generalize w3.drewN m4 = w4 at hB4 ⊢
  have HB4 := Lib.hid hB4
  have hs4 := hB4.size
  have HBW4 := Lib.hid (HBW.out.trans (hB4.mono (Nat.le_trans hsw hs2)))
  have e0 := (KeepE.out w4 HB4.out).1
  have e1 := (KeepE.out w4 HB4.out).2
  have e2 := (Keep.out w4 HB4.out).2
  have HBX := Lib.hid (HBX0.out.below HB4.out)
  have HK4 := Lib.hid (HKB.out.below HBW4.out); have H14 := Lib.hid (H1.out.below HBW4.out); have H24 := Lib.hid (H2.out.below HBW4.out); have H34 := Lib.hid (H3.out.below HBW4.out)
  have H44 : Hid (∀ y ∈ L, FwOwn w4 B y) := Lib.hid (fun y hy => (H4.out y hy).below HBW4.out)
  have HX4 := Lib.hid (HX.out.below HBW4.out)
  clear hB4 g0 g2
  by_cases htag : tagB key r2 = yl
  · rw [htag, beq_self_eq_true]
    have hgood : Good key (fm l) j := by
      unfold Good
      rw [← HMM.out, htag]
      exact HT.out.t.symm
    have HGD := Lib.hid hgood
    clear htag hgood
    have k1 : w4.cell? ⟨k0 + 1, 0, none⟩ = some (.slice al j cl) := H14.out.cell 0
    have HW5 : Hid (Below w4.heap.size w4 (w4.alloc (.cells #[.int .i64 xk, .slice xa xn xc] 35))) := Lib.hid ((Below.refl _ _).alloc (Nat.le_refl _) _)
    have hn1 : (j + 1) * 32 ≤ 140737488355328 := by omega
    have hm1 : j + 1 ≤ maxLen := by simp only [maxLen]; omega
    obtain ⟨x, hx⟩ : ∃ x : Fw, x = ⟨⟨xk, xa, xn, xc, xl⟩, ya, 32, yc, yl⟩ := ⟨_, rfl⟩
    have hce : ∀ j u, (eCells x)[j]? = some u → (w4.alloc (.cells #[.int .i64 xk, .slice xa xn xc] 35)).cell? ((⟨w4.heap.size, 0, none⟩ : Addr).add j) = some u := by
      have h := cells_e w4 x
      rw [hx] at h
      rw [hx]
      exact h
    have hlx : (eCells x).length = 2 := rfl
    have hox : ∀ u ∈ eCells x, u.oneCell' = true := by intro u hu; simp [eCells] at hu; rcases hu with rfl | rfl <;> rfl
    have HCE := Lib.hid hce; have HOX := Lib.hid hox; have HLX := Lib.hid hlx; have HXE := Lib.hid hx
    clear hce hox hlx hx
    have hb5 : B ≤ w4.heap.size := Nat.le_trans hsz HBW4.out.size
    go_wp2_with (at_builtin; refine wpList_append_s2 entT (by decide) rfl (.tmp 29) (.tmp 32) rfl B rfl (H34.out.below HW5.out) rfl x HLX.out HOX.out HCE.out hn1 hm1 (Nat.le_trans hb5 HW5.out.size) ?_)
    intro a6 c6 w6 ho6 hb6 hg6
    have hty := typed_s (H34.out.below HW5.out)
    have HK6 := Lib.hid (grown_blk (HK4.out.below HW5.out) hty (by decide) hg6)
    have H16 := Lib.hid (grown_blk (H14.out.below HW5.out) hty (by decide) hg6)
    have H26 := Lib.hid (grown_blk (H24.out.below HW5.out) hty (by decide) hg6)
    have HF6 : Hid (∀ y ∈ L ++ [x], FwOwn w6 B y) := Lib.hid (fun y hy => by
      rcases List.mem_append.1 hy with hy | hy
      · exact grown_f ((H44.out y hy).below HW5.out) hty (by decide) hg6
      · simp only [List.mem_singleton] at hy
        subst hy
        rw [HXE.out]
        exact grown_f (HX4.out.below HW5.out) hty (by decide) hg6)
    have HX6 := Lib.hid (grown_f (HX4.out.below HW5.out) hty (by decide) hg6)
    have HO6 := Lib.hid ho6
    have HB6 := Lib.hid (((HB.out.trans (HBW4.out.mono hsz)).trans (HW5.out.mono hb5)).trans hb6)
    have hxb : Blk w4 w.heap.size #[.int .i64 xk, .slice xa xn xc, .slice ya 32 yc] 85 := HBX.out
    have hxb6 := grown_blk (hxb.below HW5.out) hty (by decide) hg6
    have q0 : w6.cell? ⟨k0 + 1, 0, none⟩ = some (.slice al j cl) := H16.out.cell 0
    have q1 : w6.frozen? ⟨k0 + 1, 0, none⟩ = false := H16.out.free 0
    have q2 : w6.cell? ⟨k2, 0, none⟩ = some (.slice ax 32 cx) := H26.out.cell 0
    have q3 : w6.frozen? ⟨k2, 0, none⟩ = false := H26.out.free 0
    have q4 : w6.cell? ⟨w.heap.size, 2, none⟩ = some (.slice ya 32 yc) := hxb6.cell 2
    clear ho6 hb6 hg6 hty HCE HOX HLX e0 e1 e2 k1 hxb hxb6
    have n1 : ¬ w.heap.size = k0 + 1 := by omega
    go_wp2
    go_ret
    have hA1 := H26.out.other (⟨k0 + 1, 0, none⟩ : Addr) (.slice a6 (j + 1) c6) (by show k2 ≠ k0 + 1; omega)
    have hah : ahd (fm l) (j + 1) = yl := by
      have := HT.out.t
      rw [show ahd (fm l) (j + 1) = (fm l j).t from rfl, ← this]
    refine ⟨0, rfl, fun _ => ⟨(HB6.out.setCell (by show B ≤ k0 + 1; omega) _).setCell (by show B ≤ k2; omega) _, (HK6.out.other _ _ (by show k0 ≠ k0 + 1; omega)).other _ _ (by show k0 ≠ k2; omega), ⟨L ++ [x], a6, c6, ya, yc, ?_, ?_, ?_, ?_, ?_, ?_⟩, ?_⟩, fun h => absurd rfl h⟩
    · have := (H16.out.set 0 (.slice a6 (j + 1) c6)).other (⟨k2, 0, none⟩ : Addr) (.slice ya 32 yc) (by show k0 + 1 ≠ k2; omega)
      simpa using this
    · have := hA1.set 0 (.slice ya 32 yc)
      simpa using this
    · exact OwnS.otherBlk (OwnS.otherBlk HO6.out H16.out (by decide) _) hA1 (by decide) _
    · exact fun y hy => FwOwn.otherBlk (FwOwn.otherBlk (HF6.out y hy) H16.out (by decide) _) hA1 (by decide) _
    · refine H5.out.snoc ?_
      rw [H3.out.num, HXE.out]
      exact HT.out
    · rw [hah]
      exact OwnB.otherBlk (OwnB.otherBlk HX6.out.tag H16.out (by decide) _) hA1 (by decide) _
    · intro i hi
      rcases Nat.lt_or_ge i j with h7 | h7
      · exact HG.out i h7
      · obtain rfl : i = j := by omega
        exact HGD.out
  · have d : (tagB key r2 == yl) = false := by rw [beq_eq_false_iff_ne]; exact htag
    rw [d]
    have hgood : ¬ Good key (fm l) j := by
      unfold Good
      rw [← HMM.out, ← HT.out.t]
      exact fun h => htag h.symm
    have HGD := Lib.hid hgood
    clear htag hgood d e0 e1 e2
    go_wp2
    go_ret
    exact ⟨29, rfl, fun h => by omega, fun _ => ⟨HB.out.trans (HBW4.out.mono hsz), rfl, HGD.out, HG.out⟩⟩

theorem enters_e (args : Array Value) (W : World) : Sem.run Try.prog (callFunc 56 args) W = .ok (.enter 56 args) W := by
  have h1 : ¬ (Try.f56.name = "runtime.NumGoroutine") := by decide +kernel
  have h2 : ¬ (Try.f56.body = none) := by
    have h : Try.f56.body.isNone = false := by kernel_rfl
    intro q
    rw [q] at h
    cases h
  simp [callFunc, Try.func56, go_sem, h1, h2]

/-- The three results of Entries: the entries of the call's own, the last tag, what is wrong. -/
def EnPost (key l : List Int) (w : World) (e : Ending) (w' : World) : Prop :=
  Below w.heap.size w w' ∧ ∃ (m : Nat) (E : Int) (L : List Fw) (al : Option Addr) (cl : Nat) (ax : Option Addr) (nx cx : Nat) (t : List Int), EntE key l m E ∧ e = .returned (.tuple #[.slice al L.length cl, .slice ax nx cx, .int .i64 E]) ∧
    OwnS 2 eCells w' w.heap.size 35 al L.length cl L ∧ (∀ x ∈ L, FwOwn w' w.heap.size x) ∧ Told L (fm l) ∧ OwnB w' w.heap.size 5 ax nx cx t ∧ (E = 0 → L.length = m ∧ t = ahd (fm l) m) ∧ (E ≠ 0 → L = [] ∧ t = [])

set_option maxRecDepth 100000 in
set_option maxHeartbeats 2000000 in
theorem entries_any (a0 : Option Addr) (n0 c0 : Nat) (key : List Int) (a : Option Addr) (n c : Nat) (l : List Int) (w : World) (h0 : Bytes w a0 n0 c0 key) (h : Bytes w a n c l) (hk : n0 ≤ 100000) (hn : n ≤ 100000) :
    Calls Try.prog 21 #[.slice a0 n0 c0, .slice a n c] w (EnPost key l w) := by
  have hcap := h.cap; have hmost := h.most; have hlen := h.len
  have hmf : ∀ (fn : Fn) (first cap : Array Value) (w : World), (Instr.makeFunc fn first cap).run Try.prog w = .ok (.func fn first cap) w := fun _ _ _ _ => rfl
  have H0 := Lib.hid h0
  have H := Lib.hid h
  have HLE := Lib.hid hlen
  have hHA := h.all
  have HA := Lib.hid hHA
  clear h0 h hlen hHA
  have hD : ∀ k2, w.heap.size + 1 < k2 → DoneBy 56 #[.pointer (some ⟨k2, 0, none⟩), .pointer (some ⟨w.heap.size + 1, 0, none⟩), .pointer (some ⟨w.heap.size, 0, none⟩)] l w.heap.size w (EnI key l w.heap.size w.heap.size k2 w a0 n0 c0) (EnR key l w.heap.size w) := fun k2 hk2 =>
    ⟨fun args W => enters_e args W, fun j w1 h => h.below, fun j w1 w2 h hb => h.stays rfl hb,
     fun j w1 x hI hU _ hrd hx ht hxn => by
      have hok := fr_ok HA.out hrd
      refine edone_any key l w.heap.size w.heap.size k2 w a0 n0 c0 rfl (Nat.le_refl _) hk2 H0.out hk j w1 x hI (by have h1 := at_ge (l := l) j; have h2 := at_le HA.out j hU; rw [HLE.out] at h2; omega) hx ht hxn ?_ ?_
      · rw [ht.k, ht.b]; exact hok.2.2.2.1
      · rw [ht.t]; exact hok.1⟩
  have HD := Lib.hid hD
  clear hD
  have s1 : (w.alloc (.cells #[.slice a0 n0 c0] 22)).heap.size = w.heap.size + 1 := by simp
  have s2 : ((w.alloc (.cells #[.slice a0 n0 c0] 22)).alloc (.cells #[.slice none 0 0] 23)).heap.size = w.heap.size + 2 := by simp
  have hk0 : Blk ((w.alloc (.cells #[.slice a0 n0 c0] 22)).alloc (.cells #[.slice none 0 0] 23)) w.heap.size #[.slice a0 n0 c0] 22 := (Blk.new w _ _).below ((Below.refl _ _).alloc (Nat.le_refl _) _)
  have hk1 := Blk.new (w.alloc (.cells #[.slice a0 n0 c0] 22)) #[.slice none 0 0] 23
  rw [s1] at hk1
  have hb2 : Below w.heap.size w ((w.alloc (.cells #[.slice a0 n0 c0] 22)).alloc (.cells #[.slice none 0 0] 23)) := ((Below.refl _ _).alloc (Nat.le_refl _) _).alloc (by simp) _
  have HK0 := Lib.hid hk0; have HK1 := Lib.hid hk1; have HB2 := Lib.hid hb2; have S2 := Lib.hid s2
  clear s1 s2 hk0 hk1 hb2
  go_enter Try.func21, Try.ntmps21
  go_wp2_with fail
  refine (first_any _).mono ?_
  rintro e w3 ⟨a3, c3, rfl, ho3, hb3⟩
  have HB3 := Lib.hid (HB2.out.trans (hb3.mono HB2.out.size))
  have HK03 := Lib.hid (HK0.out.below hb3); have HK13 := Lib.hid (HK1.out.below hb3)
  have HO3 := Lib.hid (ho3.mono HB2.out.size)
  have hs3 := hb3.size
  rw [S2.out] at hs3
  clear ho3 hb3
  go_wp2_with fail
  have hgt : w.heap.size + 1 < w3.heap.size := by omega
  have hI0 : EnI key l w.heap.size w.heap.size w3.heap.size w a0 n0 c0 0 (w3.alloc (.cells #[.slice a3 32 c3] 22)) := by
    have hW4 : Below w3.heap.size w3 (w3.alloc (.cells #[.slice a3 32 c3] 22)) := (Below.refl _ _).alloc (Nat.le_refl _) _
    exact ⟨HB3.out.alloc HB3.out.size _, HK03.out.below hW4, ⟨[], none, 0, a3, c3, HK13.out.below hW4, Blk.new w3 _ _, OwnS.nil _ _ _, by simp, fun i x h => by simp at h, HO3.out.alloc _⟩, fun i h => absurd h (Nat.not_lt_zero i)⟩
  have HI0 := Lib.hid hI0
  clear hI0
  refine (along_any 56 #[.pointer (some ⟨w3.heap.size, 0, none⟩), .pointer (some ⟨w.heap.size + 1, 0, none⟩), .pointer (some ⟨w.heap.size, 0, none⟩)] a n c l w.heap.size w (EnI key l w.heap.size w.heap.size w3.heap.size w a0 n0 c0) (EnR key l w.heap.size w) rfl H.out hn (HD.out _ hgt) _ HI0.out).mono ?_
  rintro e w5 ⟨j, E, rfl, hU, hcase⟩
  by_cases hE : E = 0
  · subst hE
    have hE2 : EntE key l j 0 ∧ EnI key l w.heap.size w.heap.size w3.heap.size w a0 n0 c0 j w5 := by
      rcases hcase with ⟨h1, h2, h3⟩ | ⟨h1, h2, h3, h4⟩ | ⟨h1, h2, h3, h4⟩
      · exact ⟨⟨hU, h3.good, .inl ⟨h1, rfl⟩⟩, h3⟩
      · exact absurd rfl h3
      · exact absurd rfl h3
    obtain ⟨he, hI⟩ := hE2
    obtain ⟨hb, _, ⟨L, al, cl, ax, cx, h1, h2, h3, h4, h5, h6⟩, _⟩ := hI
    have q0 : w5.cell? ⟨w.heap.size + 1, 0, none⟩ = some (.slice al j cl) := h1.cell 0
    have q1 : w5.cell? ⟨w3.heap.size, 0, none⟩ = some (.slice ax 32 cx) := h2.cell 0
    have hjL : L.length = j := h3.num
    have HE := Lib.hid he; have HB := Lib.hid hb; have H3 := Lib.hid h3; have H4 := Lib.hid h4; have H5 := Lib.hid h5; have H6 := Lib.hid h6; have HJ := Lib.hid hjL
    clear he hb h1 h2 h3 h4 h5 h6 hU hcase hmf hjL
    go_wp2_with fail
    go_quiet (fail)
    go_wp2
    go_ret3
    refine ⟨below_drewN HB.out _, j, 0, L, al, cl, ax, 32, cx, _, HE.out, by rw [HJ.out]; rfl, ?_, fun x hx => (H4.out x hx).below (below_drewN (Below.refl _ _) _), H5.out, H6.out.drewN _, fun _ => ⟨HJ.out, rfl⟩, fun h => absurd rfl h⟩
    rw [HJ.out]
    exact H3.out.below (below_drewN (Below.refl _ _) _)
  · have d : (E != 0) = true := by rw [bne_iff_ne]; exact hE
    have hE2 : EntE key l j E ∧ Below w.heap.size w w5 := by
      rcases hcase with ⟨h1, h2, h3⟩ | ⟨h1, h2, h3, h4⟩ | ⟨h1, h2, h3, h4⟩
      · exact absurd h2 hE
      · exact ⟨⟨hU, h4.good, .inr (.inl ⟨h1, h2, h3⟩)⟩, h4.below⟩
      · exact ⟨⟨hU, h4.2.2.2, .inr (.inr ⟨h1, h2, h4.2.2.1, h4.2.1⟩)⟩, h4.1⟩
    have HE2 := Lib.hid hE2; have HE := Lib.hid hE
    clear hE2 hE hU hcase hmf
    go_wp2
    go_ret3
    exact ⟨HE2.out.2, j, E, [], none, 0, none, 0, 0, [], HE2.out.1, rfl, OwnS.nil _ _ _, by simp, fun i x h => by simp at h, OwnB.nil _ _ _, fun h => absurd h HE.out, fun _ => ⟨rfl, rfl⟩⟩

end Go.Proofs.Ytejhncdempfmjaa.ch
