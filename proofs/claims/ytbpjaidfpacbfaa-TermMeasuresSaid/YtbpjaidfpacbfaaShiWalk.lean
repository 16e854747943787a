/-
  Layer 14: the program's walk with the mover.
-/
import Derived.Test.YtbpjaidfpacbfaaShiMove
namespace Go.Proofs.Ytbpjaidfpacbfaa.te
open Go.ChangeShapes Go.WideShapes Go.ChangeAt Go.RowKit
open bs tr
set_option linter.unusedVariables false

/-- A term moved, from a depth on. -/
noncomputable def sh (by' fr : Int) (t : VT) : Int → VT := Tr.fold (fun x l bs d => if x.k = 7 then .mk (mv by' fr x d) l else .mk x (bs.mapIdx fun i f => f (d + (inn x l i : Nat)))) t
noncomputable def kidS (by' fr : Int) (x : Lab) (l : List VT) (d : Int) : List VT := l.mapIdx fun i y => sh by' fr y (d + (inn x l i : Nat))
theorem sh_mk (by' fr : Int) (x : Lab) (l : List VT) (d : Int) : sh by' fr (.mk x l) d = if x.k = 7 then .mk (mv by' fr x d) l else .mk x (kidS by' fr x l d) := by
  unfold sh kidS
  rw [Tr.fold_mk]
  split
  · rfl
  · congr 1
    apply List.ext_getElem?
    intro i
    simp [sh, List.getElem?_mapIdx]
    rfl
/-- Would one be lost? -/
noncomputable def lo (by' fr : Int) (t : VT) : Int → Bool := Tr.fold (fun x l bs d => if x.k = 7 then ls by' fr x d else (bs.mapIdx fun i f => f (d + (inn x l i : Nat))).any id) t
noncomputable def kidL (by' fr : Int) (x : Lab) (l : List VT) (d : Int) : List Bool := l.mapIdx fun i y => lo by' fr y (d + (inn x l i : Nat))
theorem lo_mk (by' fr : Int) (x : Lab) (l : List VT) (d : Int) : lo by' fr (.mk x l) d = if x.k = 7 then ls by' fr x d else (kidL by' fr x l d).any id := by
  unfold lo kidL
  rw [Tr.fold_mk]
  split
  · rfl
  · congr 1
    apply List.ext_getElem?
    intro i
    simp [lo, List.getElem?_mapIdx]
    rfl
theorem kidS_at {by' fr : Int} {x : Lab} {l : List VT} {d : Int} {k : Nat} {y : VT} (h : l[k]? = some y) : (kidS by' fr x l d)[k]? = some (sh by' fr y (d + (inn x l k : Nat))) := by
  unfold kidS; rw [List.getElem?_mapIdx, h]; rfl
theorem kidL_at {by' fr : Int} {x : Lab} {l : List VT} {d : Int} {k : Nat} {y : VT} (h : l[k]? = some y) : (kidL by' fr x l d)[k]? = some (lo by' fr y (d + (inn x l k : Nat))) := by
  unfold kidL; rw [List.getElem?_mapIdx, h]; rfl
theorem kidS_len (by' fr : Int) (x : Lab) (l : List VT) (d : Int) : (kidS by' fr x l d).length = l.length := by unfold kidS; rw [List.length_mapIdx]
theorem kidL_len (by' fr : Int) (x : Lab) (l : List VT) (d : Int) : (kidL by' fr x l d).length = l.length := by unfold kidL; rw [List.length_mapIdx]
theorem any_succ {L : List Bool} {k : Nat} {b : Bool} (h : L[k]? = some b) : (L.take (k + 1)).any id = ((L.take k).any id || b) := by
  rw [List.take_add_one, h]; simp
theorem inn_block {x : Lab} {l : List VT} {k : Nat} (h : x.k = 29) (hk : k < l.length) : inn x l (k : Nat) = brC l k := by
  rw [inn, if_neg (by omega), if_pos h, Int.toNat_natCast]

def WM (by' fr : Int) (t : VT) (d : Int) (B0 mb : Nat) (lost : Bool) (w : World) (e : Ending) (w' : World) : Prop :=
  ∃ r : Vn, e = .returned (A6 r) ∧ r.tr = sh by' fr t d ∧ r.Rs (Old B0 w.heap.size) w' ∧ MB w' mb by' fr (lost || lo by' fr t d) ∧ Turned w w' mb none

theorem kp_mb {w w' : World} {mb B : Nat} (h : Turned w w' mb none) (hB : B ≤ mb) : Kp (· < B) w w' := kpB h hB (fun g hg => by cases hg)

abbrev W2 (w : World) (v : Vn) : World := (w.alloc (.cells #[.int .i64 v.x.k, .int .i64 v.x.n, .string v.x.s, .slice v.a v.m v.c, .int .i64 v.x.f, .int .i64 v.x.t] 24)).alloc (.cells #[.int .i64 0, .int .i64 0, .string ⟨#[]⟩, .slice none 0 0, .int .i64 0, .int .i64 0] 24)
theorem w2_facts (w : World) (v : Vn) : Below w.heap.size w (W2 w v) ∧ VB (W2 w v) w.heap.size v ∧ VB (W2 w v) (w.heap.size + 1) v0 ∧ (W2 w v).heap.size = w.heap.size + 2 := by
  refine ⟨((Below.refl _ _).alloc (Nat.le_refl _) _).alloc (by simp) _, (vb_new w v).below (below_alloc _ _), ?_, by simp⟩
  have h := vb_new0 (w.alloc (.cells #[.int .i64 v.x.k, .int .i64 v.x.n, .string v.x.s, .slice v.a v.m v.c, .int .i64 v.x.f, .int .i64 v.x.t] 24))
  rwa [size_alloc] at h

theorem sumk_le {l : List VT} {k j : Nat} (h : k ≤ j) : Tr.sumk l k ≤ Tr.sumk l j := by
  unfold Tr.sumk
  have : l.take j = l.take k ++ (l.take j).drop k := by
    have h1 := (List.take_append_drop k (l.take j)).symm
    rwa [List.take_take, Nat.min_eq_left h] at h1
  rw [this, List.map_append, List.sum_append]
  omega
theorem le_sumk (l : List VT) (k : Nat) (h : k ≤ l.length) : k ≤ Tr.sumk l k := by
  induction k with
  | zero => exact Nat.zero_le _
  | succ k ih =>
    have hk : l[k]? = some (l[k]'(by omega)) := List.getElem?_eq_getElem _
    rw [Tr.sumk_succ hk]
    have := Tr.size_pos (l[k]'(by omega))
    have := ih (by omega)
    omega
theorem brC_le_k (l : List VT) (k : Nat) : brC l k ≤ k := by
  unfold brC
  exact Nat.le_trans (List.length_filter_le _ _) (by rw [List.length_take]; omega)
theorem inn_size {x : Lab} {l : List VT} {k : Nat} {y : VT} (h : l[k]? = some y) : inn x l (k : Nat) + y.size < Tr.size (Tr.mk x l) := by
  have hk := (List.getElem?_eq_some_iff.1 h).1
  have h1 : Tr.size (Tr.mk x l) = 1 + Tr.sumk l l.length := Tr.sumk_all rfl
  have h2 := Tr.sumk_succ h
  have h3 := sumk_le (l := l) (show k + 1 ≤ l.length by omega)
  have h4 := le_sumk l k (by omega)
  have h5 := brC_le_k l k
  unfold inn
  rw [if_neg (by omega), Int.toNat_natCast]
  split
  · omega
  · split
    · rename_i _ h6; have := h6.2; omega
    · split
      · rename_i _ _ h6
        have hk2 : k = 2 := by have := h6.2; omega
        subst hk2
        cases l with
        | nil => simp at h
        | cons z l =>
          have h7 : Tr.sumk (z :: l) 1 = z.size := by simp [Tr.sumk]
          have h8 := sumk_le (l := z :: l) (show 1 ≤ 2 by omega)
          have h9 : z.kids.length < z.size := by cases z with | mk a b => exact Tr.len_size
          show z.kids.length + _ < _
          omega
      · omega

theorem Frst.turned {B0 H mb : Nat} {w w' : World} {base : Nat} {a n c} {L : List Vn} (h : Frst B0 H w base a n c L) (ht : Turned w w' mb none) (hmb : mb < base) (hB : B0 ≤ mb) (hH : mb < H) : Frst B0 H w' base a n c L := by
  refine ⟨⟨⟨h.own.own.1, ?_⟩, h.own.num⟩, fun x hx => (h.rs x hx).agree ⟨ht.size, fun b hS hb => ht.block b hb (by rcases hS.1 with h | h <;> omega) (fun e => by cases e)⟩⟩
  rcases h.own.own.2 with hv | ⟨g, cap, cur, hv, hg, hh, r⟩
  · exact .inl hv
  · exact .inr ⟨g, cap, cur, hv, hg, by rw [ht.block g (Array.getElem?_eq_some_iff.1 hh).1 (by omega) (fun e => by cases e)]; exact hh, r⟩

/-- Before a part is moved, in its own variable. -/
structure Cx (w V : World) (B0 H mb g8 : Nat) (by' fr : Int) (lost : Bool) (x : Lab) (oa : Option Addr) (k oc : Nat) (L : List Vn) (y : Vn) : Prop where
  frst : Frst B0 H V H oa k oc L
  out : VB V w.heap.size ⟨x, oa, k, oc, []⟩
  res : VB V (w.heap.size + 1) v0
  x8 : VB V g8 y
  mov : MB V mb by' fr lost
  tur : Turned w V mb none
  size : H ≤ V.heap.size
theorem Cx.below {w V V' : World} {B0 H mb g8 : Nat} {by' fr : Int} {lost : Bool} {x : Lab} {oa : Option Addr} {k oc : Nat} {L : List Vn} {y : Vn} (h : Cx w V B0 H mb g8 by' fr lost x oa k oc L y) (hb : Below V.heap.size V V') : Cx w V' B0 H mb g8 by' fr lost x oa k oc L y :=
  ⟨h.frst.below hb, h.out.below hb, h.res.below hb, h.x8.below hb, h.mov.below hb, h.tur.trans_below hb, Nat.le_trans h.size hb.size⟩
theorem Cx.call {w V V' : World} {B0 H mb g8 : Nat} {by' fr : Int} {lost lost' : Bool} {x : Lab} {oa : Option Addr} {k oc : Nat} {L : List Vn} {y : Vn} (h : Cx w V B0 H mb g8 by' fr lost x oa k oc L y) (ht : Turned V V' mb none) (hm : MB V' mb by' fr lost') (hB : B0 ≤ mb) (hmw : mb < w.heap.size) (hH : w.heap.size + 2 ≤ H) (h8 : H ≤ g8) : Cx w V' B0 H mb g8 by' fr lost' x oa k oc L y :=
  ⟨h.frst.turned ht (by omega) hB (by omega), h.out.of (ht.block _ h.out.lt (by omega) (fun e => by cases e)), h.res.of (ht.block _ h.res.lt (by omega) (fun e => by cases e)), h.x8.of (ht.block _ h.x8.lt (by omega) (fun e => by cases e)), hm, h.tur.trans ht (fun _ _ h => h), Nat.le_trans h.size ht.size⟩
theorem Cx.app {w X V' : World} {B0 H mb g8 : Nat} {by' fr : Int} {lost : Bool} {x : Lab} {oa a4 : Option Addr} {k oc c4 : Nat} {L : List Vn} {y r : Vn} (h : Cx w X B0 H mb g8 by' fr lost x oa k oc L y) (hf : Frst B0 H V' H a4 (k + 1) c4 (L ++ [r])) (hb : Below H X V') (hg : X.grownBy V' (blockOf oa))
    (hB : B0 ≤ mb) (hmw : mb < w.heap.size) (hH : w.heap.size + 2 ≤ H) (h8 : H ≤ g8) (ho : blockOf oa ≠ some g8) : Cx w (V'.setCell ⟨w.heap.size, 3, none⟩ (.slice a4 (k + 1) c4)) B0 H mb g8 by' fr lost x a4 (k + 1) c4 (L ++ [r]) y := by
  have hon := only_cell V' w.heap.size 3 (.slice a4 (k + 1) c4)
  refine ⟨⟨⟨ownsRow_setCell_below hf.own.own (a := ⟨w.heap.size, 3, none⟩) (by show w.heap.size < _; omega) _, hf.own.num⟩, fun z hz => (hf.rs z hz).agree (hon.kp (fun b hS => by rcases hS.1 with h | h <;> omega))⟩, ?_, ?_, ?_, ?_, ?_, ?_⟩
  · have h1 := (h.out.of (hb.block w.heap.size (by omega))).set 3 (.slice a4 (k + 1) c4)
    simpa using h1
  · exact hon.blk (h.res.of (hb.block _ (by omega))) (by omega)
  · exact hon.blk (h.x8.of (hg.block g8 h.x8.lt (fun e => ho e.symm))) (by omega)
  · exact hon.blk (h.mov.of (hb.block _ (by omega))) (by omega)
  · exact Turned.trans_below' (Turned.trans_below' h.tur (hb.mono (by omega))) (hon.below (Nat.le_refl _))
  · rw [hon.size]; exact Nat.le_trans h.size hb.size

set_option maxRecDepth 100000 in
set_option maxHeartbeats 8000000 in
theorem mwalk_any (by' fr : Int) (b0 : -10000 ≤ by') (b1 : by' ≤ 1000000) (f0 : 0 ≤ fr) (f1 : fr ≤ 10000) (mb B0 : Nat) (hBm : B0 ≤ mb) (t : VT) : ∀ (v : Vn) (d : Int) (lost : Bool) (w : World), v.tr = t → v.Rs (· < B0) w → MB w mb by' fr lost → 0 ≤ d → d + t.size ≤ 1000000 → t.size ≤ 100000 →
    Calls Try.prog 55 #[A6 v, .int .i64 d, .func (.func 56) #[.pointer (some ⟨mb, 0, none⟩)] #[]] w (WM by' fr v.tr d B0 mb lost w) := by
  induction t using Tr.ind with
  | h tx tl ih =>
  intro v d lost w hat hv hM hd0 hd1 hsz
  obtain ⟨x, a, m, c, l⟩ := v
  cases hat
  have hd2 : d + ((Tr.size (Tr.mk x l) : Nat) : Int) ≤ 1000000 := hd1
  have hsz2 : Tr.size (Tr.mk x l) ≤ 100000 := hsz
  have hlm := Tr.len_size (x := x) (l := l)
  have hvl := hv.rd
  have hx64 : In64 x := hv.x64
  dsimp only at hvl
  have hcap := hvl.cap; have hmost := hvl.most; have hlx := hvl.len
  have hm : m ≤ 100000 := by omega
  have hmb := hM.lt
  have hinn : ∀ i : Int, inn x l i ≤ Tr.size (Tr.mk x l) := fun i => inn_le x l i
  obtain ⟨hW, hZ, hY, hs⟩ := w2_facts w ⟨x, a, m, c, l⟩
  simp only [W2] at hW hZ hY hs
  have HW := Lib.hid hW; have HZ := Lib.hid hZ; have HY := Lib.hid hY; have HS := Lib.hid hs; have HM := Lib.hid (hM.below hW)
  have HV := Lib.hid hv; have HIH := Lib.hid ih; have HLX := Lib.hid hlx; have H64 := Lib.hid hx64; have HINN := Lib.hid hinn
  have HD2 := Lib.hid hd2; have HSZ := Lib.hid hsz2; have HLM := Lib.hid hlm
  clear hv hM hvl hx64 hW hZ hY hs ih hlx hsz hsz2 hlm hd1 hd2 hinn
  have hcf : ∀ args (W : World), Sem.run Try.prog (callFunc 56 args) W = .ok (.enter 56 args) W := fun _ _ => rfl
  go_enter Try.func55, Try.ntmps55
  go_upto_region 1 with fail
  generalize hWW : (w.alloc (.cells #[.int .i64 x.k, .int .i64 x.n, .string x.s, .slice a m c, .int .i64 x.f, .int .i64 x.t] 24)).alloc (.cells #[.int .i64 0, .int .i64 0, .string ⟨#[]⟩, .slice none 0 0, .int .i64 0, .int .i64 0] 24) = W at HW HZ HY HS HM ⊢
  clear hWW
  have z0 := HZ.out.cell 0
  simp at z0
  by_cases hk : x.k = 7
  case pos =>
    have e1 : (x.k == 7) = true := by rw [beq_iff_eq]; exact hk
    have HK := Lib.hid hk
    clear hk
    go_wp2_with (refine wpList_load_T rfl _ rfl rfl HZ.out ?_)
    have hdm : d ≤ 1000000 := by have := HD2.out; omega
    refine (move_any by' fr ⟨x, a, m, c, l⟩ d mb lost W H64.out hd0 hdm HM.out b0 b1 f0 f1).mono ?_
    rintro e w2 ⟨rfl, hm2, ht2⟩
    have HM2 := Lib.hid hm2; have HT2 := Lib.hid ((Turned.of_below HW.out mb none).trans ht2 (fun _ _ h => h))
    have HY2 := Lib.hid (HY.out.of (ht2.block _ HY.out.lt (by omega) (fun e => by cases e)))
    have hw2 := ht2.size
    clear hm2 ht2 z0
    go_wp2_with (refine wpList_store_T rfl _ _ rfl rfl HY2.out ⟨mv by' fr x d, a, m, c, l⟩ rfl ?_)
    intro w3 hv3 ho3
    go_wp2
    try simp only [Exit.inBlock, Exit.then]
    refine bodyPost_ret (results_cell_row rfl _ _ (w.heap.size + 1) _ _ _ _ rfl hv3 Try.underlying24 rfl (by kernel_rfl)) rfl ?_
    have hT3 : Turned w w3 mb none := Turned.trans_below' HT2.out (ho3.below (by omega))
    have hvr := HV.out.agree (kp_mb hT3 hBm)
    refine ⟨⟨mv by' fr x d, a, m, c, l⟩, rfl, ?_, Vn.Rs.weak (S := (· < B0)) ⟨hvr.rd, hvr.sb, mv64 hvr.x64⟩ (fun b _ h => .inl h), ?_, hT3⟩
    · show Tr.mk (mv by' fr x d) l = sh by' fr (.mk x l) d
      rw [sh_mk, if_pos HK.out]
    · have e : lo by' fr (Vn.tr ⟨x, a, m, c, l⟩) d = ls by' fr x d := by show lo by' fr (.mk x l) d = _; rw [lo_mk, if_pos HK.out]
      rw [e]
      exact ho3.blk HM2.out (by omega)
  have e1 : (x.k == 7) = false := by rw [beq_eq_false_iff_ne]; exact hk
  have HK := Lib.hid hk
  clear hk
  go_upto_if 20 with fail
  go_cut [] from 20 to 24 (fun wx => Hid (VB wx w.heap.size ⟨x, a, m, c, l⟩) ∧ Hid (VB wx (w.heap.size + 1) v0) ∧ Hid (MB wx mb by' fr lost) ∧ Hid (Turned w wx mb none) ∧ Hid (w.heap.size + 2 ≤ wx.heap.size))
  case first =>
    have HT0 := Lib.hid (Turned.of_below HW.out mb none)
    by_cases hk2 : x.k = 22
    · have e2 : (x.k == 22) = true := by rw [beq_iff_eq]; exact hk2
      clear hk2
      go_wp2_with (refine wpList_load_T rfl _ rfl rfl HZ.out ?_)
      have hdm : d ≤ 1000000 := by have := HD2.out; omega
      refine (move_any by' fr ⟨x, a, m, c, l⟩ d mb lost W H64.out hd0 hdm HM.out b0 b1 f0 f1).mono ?_
      rintro e w2 ⟨rfl, hm2, ht2⟩
      have hmv : mv by' fr x d = x := by unfold mv; rw [if_neg (fun h => HK.out h.1)]
      have hls : ls by' fr x d = false := by unfold ls; rw [decide_eq_false_iff_not]; exact fun h => HK.out h.1
      dsimp only at hm2
      rw [hls, Bool.or_false] at hm2
      dsimp only
      rw [hmv]
      have HM2 := Lib.hid hm2; have HT2 := Lib.hid (HT0.out.trans ht2 (fun _ _ h => h))
      have HY2 := Lib.hid (HY.out.of (ht2.block _ HY.out.lt (by omega) (fun e => by cases e)))
      have HZ2 := Lib.hid (HZ.out.of (ht2.block _ HZ.out.lt (by omega) (fun e => by cases e)))
      have hw2 := ht2.size
      clear hm2 ht2 z0 hmv hls
      go_wp2_with (refine wpList_store_T rfl _ _ rfl rfl HZ2.out ⟨x, a, m, c, l⟩ rfl ?_)
      intro w3 hv3 ho3
      have hs3 : w.heap.size + 2 ≤ w3.heap.size := by rw [ho3.size]; have := HS.out; omega
      go_wp2_with fail
      go_meet
      exact ⟨hv3, ho3.blk HY2.out (by omega), ho3.blk HM2.out (by omega), Turned.trans_below' HT2.out (ho3.below (Nat.le_refl _)), hs3⟩
    · have e2 : (x.k == 22) = false := by rw [beq_eq_false_iff_ne]; exact hk2
      have hs3 : w.heap.size + 2 ≤ W.heap.size := by have := HS.out; omega
      go_wp2_with fail
      go_meet
      exact ⟨HZ, HY, HM, HT0, hs3⟩
  case rest =>
    obtain ⟨HZ4, HY4, HM4, HT4, HS4⟩ := hcut
    clear HZ HY HM HS HW z0
    have y3 := HZ4.out.cell 3; have yf := HZ4.out.free 3
    simp at y3
    go_upto_region 7 with fail
    have hon := only_cell wc w.heap.size 3 (.slice none 0 0)
    have HO5 : Hid (VB (wc.setCell ⟨w.heap.size, 3, none⟩ (.slice none 0 0)) w.heap.size ⟨x, none, 0, 0, []⟩) := Lib.hid (by
      have h := HZ4.out.set 3 (.slice none 0 0)
      simpa using h)
    have HY5 := Lib.hid (hon.blk HY4.out (by omega)); have HM5 := Lib.hid (hon.blk HM4.out (by omega))
    have HT5 := Lib.hid (Turned.trans_below' HT4.out (hon.below (Nat.le_refl _)))
    have HS5 : Hid (w.heap.size + 2 ≤ (wc.setCell ⟨w.heap.size, 3, none⟩ (.slice none 0 0)).heap.size) := Lib.hid (by rw [hon.size]; exact HS4.out)
    generalize hW5 : wc.setCell ⟨w.heap.size, 3, none⟩ (.slice none 0 0) = W5 at HO5 HY5 HM5 HT5 HS5 ⊢
    clear hW5 hon y3 yf HZ4 HY4 HM4 HT4 HS4
    go_wp2_with fail
    go_loopw [8, 9, 10, 31] (fun s8 s9 s10 i wr => ∃ (k : Nat) (z : Int) (oa : Option Addr) (oc : Nat) (L : List Vn), k ≤ m ∧ i = .int .i64 k ∧ s8 = .int .i64 z ∧ Hid (x.k = 29 → z = d + (brC l k : Nat)) ∧ Hid (Frst B0 W5.heap.size wr W5.heap.size oa k oc L) ∧ Hid (Turned w wr mb none) ∧ Hid (VB wr (w.heap.size + 1) v0) ∧ Hid (VB wr w.heap.size ⟨x, oa, k, oc, []⟩) ∧ Hid (W5.heap.size ≤ wr.heap.size) ∧ Hid (MB wr mb by' fr (lost || ((kidL by' fr x l d).take k).any id)) ∧ Hid (L.map Vn.tr = (kidS by' fr x l d).take k)) (fun _ _ _ i _ => m - (intOf i).toNat)
    case atStart => exact ⟨0, d, none, 0, [], by omega, rfl, rfl, Lib.hid (fun _ => by rw [brC_zero]; omega), ⟨OwnS.nil _ _ _, fun x hx => by cases hx⟩, HT5, HY5, HO5, Lib.hid (Nat.le_refl _), by rw [List.take_zero]; show Hid (MB W5 mb by' fr (lost || false)); rw [Bool.or_false]; exact HM5, Lib.hid (by simp)⟩
    case round =>
      obtain ⟨k, z, oa, oc, L, hk2, rfl, rfl, HZk, HF, HT, HYr, HOr, HWr, HMr, HL⟩ := hrel
      by_cases hlt : k < m
      · obtain ⟨b1, o1, x1, rfl, hb1, hx1, hc1⟩ := recs_at (HV.out.agree (kp_mb HT.out hBm)).rd hlt
        obtain ⟨y, hv1, hr1, c10, c11, c12, c13, c14, c15⟩ := VAs.out hc1
        have HR1 := Lib.hid hr1; have HV1E := Lib.hid hv1; have HX1 := Lib.hid hx1
        have hmem : x1 ∈ l := List.mem_of_getElem? hx1
        have HMEM := Lib.hid hmem
        clear hr1 hv1 hx1 hmem hc1
        go_upto_region 11 with fail
        have hV0 := below_alloc wr (.cells #[.int .i64 y.x.k, .int .i64 y.x.n, .string y.x.s, .slice y.a y.m y.c, .int .i64 y.x.f, .int .i64 y.x.t] 24)
        have HX8 := Lib.hid (vb_new wr y)
        have HFv := Lib.hid (HF.out.below hV0); have HYv := Lib.hid (HYr.out.below hV0); have HOv := Lib.hid (HOr.out.below hV0); have HMv := Lib.hid (HMr.out.below hV0)
        have HRv := Lib.hid (HR1.out.below hV0); have HTv := Lib.hid (HT.out.trans_below hV0)
        have HWv : Hid (W5.heap.size ≤ wr.heap.size ∧ wr.heap.size < (wr.alloc (.cells #[.int .i64 y.x.k, .int .i64 y.x.n, .string y.x.s, .slice y.a y.m y.c, .int .i64 y.x.f, .int .i64 y.x.t] 24)).heap.size) := Lib.hid ⟨HWr.out, by rw [size_alloc]; omega⟩
        generalize hV : wr.alloc (.cells #[.int .i64 y.x.k, .int .i64 y.x.n, .string y.x.s, .slice y.a y.m y.c, .int .i64 y.x.f, .int .i64 y.x.t] 24) = V0 at hV0 HX8 HFv HYv HOv HMv HRv HTv HWv ⊢
        have HOA := Lib.hid (show ∀ i, blockOf oa = some i → W5.heap.size ≤ i ∧ i < wr.heap.size from fun i hi => HF.out.own.blockLt hi)
        clear hV c10 c11 c12 c13 c14 c15 hV0 HF HYr HOr HMr HR1 HT HWr
        have o0 := HOv.out.cell 0
        simp at o0
        have hin0 : inn x l (k : Nat) ≤ 100000 := by have := HINN.out (k : Nat); have := HSZ.out; omega
        have hdk : d + (inn x l (k : Nat) : Nat) + (Tr.size x1 : Nat) ≤ 1000000 := by have h := inn_size (x := x) (l := l) HX1.out; have := HD2.out; omega
        go_upto_if 38 with fail
        go_cut [8] from 38 to 46 (fun s8 wx => s8 = .int .i64 (d + (inn x l (k : Nat) : Nat)) ∧ Hid (Below V0.heap.size V0 wx))
        case first =>
          by_cases h29 : x.k = 29
          · have e29 : (x.k != 29) = false := by rw [bne_eq_false_iff_eq]; exact h29
            have e29b : (x.k == 29) = true := by rw [beq_iff_eq]; exact h29
            have hz : z = d + (inn x l (k : Nat) : Nat) := by rw [HZk.out h29, inn_block h29 (by rw [HLX.out]; exact hlt)]
            have HZZ := Lib.hid hz
            clear h29 hz
            go_wp2_with fail
            go_meet
            exact ⟨by rw [HZZ.out], Below.refl _ _⟩
          · have e29 : (x.k != 29) = true := by rw [bne_iff_ne]; exact h29
            have e29b : (x.k == 29) = false := by rw [beq_eq_false_iff_ne]; exact h29
            go_wp2_with fail
            refine (in_any ⟨⟨x.k, 0, ⟨#[]⟩, 0, 0⟩, some ⟨b1, o1, none⟩, m, c, l⟩ (k : Nat) V0 ⟨Ts.weak (HV.out.agree (kp_mb HTv.out hBm)).rd (fun _ _ _ => trivial), ⟨H64.out.k, i64_0, i64_0, i64_0⟩⟩ hm (by omega) (by omega)).mono ?_
            rintro e w2 ⟨rfl, hb2⟩
            have hie : inn (⟨x.k, 0, ⟨#[]⟩, 0, 0⟩ : Lab) l (k : Nat) = inn x l (k : Nat) := rfl
            dsimp only
            rw [hie]
            have hw : IntKind.i64.wrap (d + ((inn x l (k : Nat) : Nat) : Int)) = d + ((inn x l (k : Nat) : Nat) : Int) := IntWalk.i64_in _ (by omega)
            have HB2 := Lib.hid hb2
            clear hb2 hie
            go_wp2_with fail
            go_meet
            exact ⟨rfl, HB2⟩
        case rest =>
          obtain ⟨rfl, HB6⟩ := hcut
          obtain ⟨hw5, hw8⟩ := HWv.out
          have hS5 := HS5.out
          have hCx : Cx w V0 B0 W5.heap.size mb wr.heap.size by' fr (lost || ((kidL by' fr x l d).take k).any id) x oa k oc L y := ⟨HFv.out, HOv.out, HYv.out, HX8.out, HMv.out, HTv.out, by omega⟩
          have HCX := Lib.hid (hCx.below HB6.out)
          have HRc := Lib.hid (HRv.out.below HB6.out)
          have hs6 := HB6.out.size
          clear hCx HFv HOv HYv HX8 HMv HTv HRv o0
          have hszx : x1.size ≤ 100000 := by have h := inn_size (x := x) (l := l) HX1.out; have := HSZ.out; omega
          have HC := Lib.hid (show Calls Try.prog 55 #[.agg #[.int .i64 y.x.k, .int .i64 y.x.n, .string y.x.s, .slice y.a y.m y.c, .int .i64 y.x.f, .int .i64 y.x.t], .int .i64 (d + ((inn x l (k : Nat) : Nat) : Int)), .func (.func 56) #[.pointer (some ⟨mb, 0, none⟩)] #[]] wc.drew (WM by' fr x1 (d + ((inn x l (k : Nat) : Nat) : Int)) B0 mb (lost || ((kidL by' fr x l d).take k).any id) wc.drew) from by
            have h := HIH.out x1 HMEM.out y (d + ((inn x l (k : Nat) : Nat) : Int)) (lost || ((kidL by' fr x l d).take k).any id) wc.drew HV1E.out (HRc.out.below (Below.drew (Below.refl _ _))) (HCX.out.mov.below (Below.drew (Below.refl _ _))) (by omega) hdk hszx
            rw [HV1E.out] at h
            exact h)
          have q0 := HCX.out.out.cell 0; have q3 := HCX.out.out.cell 3
          have g0 := HCX.out.x8.cell 0; have g1 := HCX.out.x8.cell 1; have g2 := HCX.out.x8.cell 2; have g3 := HCX.out.x8.cell 3; have g4 := HCX.out.x8.cell 4; have g5 := HCX.out.x8.cell 5
          simp at q0 q3 g0 g1 g2 g3 g4 g5
          have hoa : blockOf oa ≠ some wr.heap.size := fun e => by have := (HOA.out _ e).2; omega
          go_upto_region 13 with fail
          go_cut [] from 47 to 55 (fun wx => ∃ (r : Vn) (a4 : Option Addr) (c4 : Nat), Hid (Cx w wx B0 W5.heap.size mb wr.heap.size by' fr ((lost || ((kidL by' fr x l d).take k).any id) || lo by' fr x1 (d + ((inn x l (k : Nat) : Nat) : Int))) x a4 (k + 1) c4 (L ++ [r]) y) ∧ Hid (r.tr = sh by' fr x1 (d + ((inn x l (k : Nat) : Nat) : Int))))
          case first =>
            go_region_law
              (first
                | (go_simp; go_at_call 55; (with_reducible refine HC.out.mono ?_); rintro e w2 ⟨r, rfl, ht2, hr2, hm2, htu2⟩; have HCX2 := Lib.hid ((HCX.out.below (Below.drew (Below.refl _ _))).call htu2 hm2 hBm hmb hS5 hw5); have HR2 := Lib.hid (Vn.Rs.apart (w := wc) (H := W5.heap.size) HCX.out.frst.own (show B0 ≤ W5.heap.size by omega) HCX.out.size hr2); have HCX3 := Lib.hid (HCX2.out.below (below_alloc w2 (.cells #[.int .i64 r.x.k, .int .i64 r.x.n, .string r.x.s, .slice r.a r.m r.c, .int .i64 r.x.f, .int .i64 r.x.t] 24))); have q32 := HCX2.out.out.cell 3; have q33 := HCX3.out.out.cell 3; have HT2 := Lib.hid ht2; clear ht2 hr2 hm2 htu2; simp at q32 q33)
                | (refine step_append_v (by rfl) (.tmp 48) (.tmp 53) (by rfl) W5.heap.size (by rfl) HCX3.out.frst (by rfl) r (HR2.out.below (below_alloc _ _)) (src_new w2 (Vn.cells r) 24) (by omega) HCX3.out.size ?_; intro a4 c4 w4 hf4 hb4 hg4; have HN := Lib.hid (HCX3.out.app hf4 hb4 hg4 hBm hmb hS5 hw5 hoa); have z3 : w4.cell? ⟨w.heap.size, 3, none⟩ = some (.slice oa k oc) := (HCX3.out.out.of (hb4.block w.heap.size (by omega))).cell 3; have y3 : w4.frozen? ⟨w.heap.size, 3, none⟩ = false := (HCX3.out.out.of (hb4.block w.heap.size (by omega))).free 3; clear hf4 hb4 hg4))
            all_goals
              go_wp2_with fail
              go_meet
              exact ⟨r, a4, c4, HN, HT2⟩
          case rest =>
            obtain ⟨r, a4, c4, HN, HTr⟩ := hcut
            clear HCX HC HRc q0 q3 g0 g1 g2 g3 g4 g5 HB6
            have HLo : Hid (((lost || ((kidL by' fr x l d).take k).any id) || lo by' fr x1 (d + ((inn x l (k : Nat) : Nat) : Int))) = (lost || ((kidL by' fr x l d).take (k + 1)).any id)) := Lib.hid (by rw [any_succ (kidL_at (l := l) HX1.out), Bool.or_assoc])
            have HLs : Hid ((L ++ [r]).map Vn.tr = (kidS by' fr x l d).take (k + 1)) := Lib.hid (by
              have e : (kidS by' fr x l d).take (k + 1) = (kidS by' fr x l d).take k ++ [sh by' fr x1 (d + ((inn x l (k : Nat) : Nat) : Int))] := by rw [List.take_add_one, kidS_at (l := l) HX1.out]; rfl
              rw [List.map_append, HL.out, e, ← HTr.out]; rfl)
            have hn0 := HN.out.out.cell 0
            simp at hn0
            by_cases h29 : x.k = 29
            · have e29b : (x.k == 29) = true := by rw [beq_iff_eq]; exact h29
              have H29 := Lib.hid h29
              have g0 := HN.out.x8.cell 0; have g1 := HN.out.x8.cell 1; have g2 := HN.out.x8.cell 2; have g3 := HN.out.x8.cell 3; have g4 := HN.out.x8.cell 4; have g5 := HN.out.x8.cell 5
              simp at g0 g1 g2 g3 g4 g5
              clear h29
              go_wp2_with fail
              refine (brings_any y _).mono ?_
              rintro e w9 ⟨rfl, hb9⟩
              have HN9 := Lib.hid (HN.out.below hb9)
              clear hb9 hn0 g0 g1 g2 g3 g4 g5
              rw [HV1E.out]
              have hsB : brC l (k + 1) = brC l k + (if brB x1 = true then 1 else 0) := brC_succ (l := l) HX1.out
              have HSB := Lib.hid hsB
              clear hsB
              cases hbb : brB x1 with
              | true =>
                have hw : IntKind.i64.wrap (d + ((inn x l (k : Nat) : Nat) : Int) + 1) = d + ((inn x l (k : Nat) : Nat) : Int) + 1 := IntWalk.i64_in _ (by omega)
                have HBB := Lib.hid hbb
                clear hbb
                go_wp2
                go_roundw
                case rel =>
                  refine ⟨k + 1, d + ((inn x l (k : Nat) : Nat) : Int) + 1, a4, c4, L ++ [r], by omega, by go_num, rfl, Lib.hid (fun _ => ?_), HN9.out.frst, HN9.out.tur, HN9.out.res, HN9.out.out, HN9.out.size, ?_, HLs⟩
                  · rw [HSB.out, HBB.out, inn_block H29.out (by rw [HLX.out]; exact hlt), if_pos rfl]; omega
                  · rw [← HLo.out]; exact HN9.out.mov
                case measure => simp [intOf]; omega
              | false =>
                have HBB := Lib.hid hbb
                clear hbb
                go_wp2
                go_roundw
                case rel =>
                  refine ⟨k + 1, d + ((inn x l (k : Nat) : Nat) : Int), a4, c4, L ++ [r], by omega, by go_num, rfl, Lib.hid (fun _ => ?_), HN9.out.frst, HN9.out.tur, HN9.out.res, HN9.out.out, HN9.out.size, ?_, HLs⟩
                  · rw [HSB.out, HBB.out, inn_block H29.out (by rw [HLX.out]; exact hlt), if_neg (by decide)]; omega
                  · rw [← HLo.out]; exact HN9.out.mov
                case measure => simp [intOf]; omega
            · have e29b : (x.k == 29) = false := by rw [beq_eq_false_iff_ne]; exact h29
              have H29 := Lib.hid h29
              clear h29
              go_wp2
              go_roundw
              case rel =>
                refine ⟨k + 1, d + ((inn x l (k : Nat) : Nat) : Int), a4, c4, L ++ [r], by omega, by go_num, rfl, Lib.hid (fun h => absurd h H29.out), HN.out.frst, HN.out.tur, HN.out.res, HN.out.out, HN.out.size, ?_, HLs⟩
                rw [← HLo.out]; exact HN.out.mov
              case measure => simp [intOf]; omega
      · have hkm : k = m := by omega
        subst hkm
        go_wp2_with (first | (refine wpList_load_T rfl _ rfl rfl HOr.out ?_) | (refine wpList_store_T rfl _ _ rfl rfl HYr.out ⟨x, oa, k, oc, []⟩ rfl ?_))
        intro w7 hv7 hon7
        go_wp2
        try simp only [Exit.inBlock, Exit.then]
        refine bodyPost_ret (results_cell_row rfl _ _ (w.heap.size + 1) _ _ _ _ rfl hv7 Try.underlying24 rfl (by kernel_rfl)) rfl ?_
        have hS5 := HS5.out
        have hsb : SB (Old B0 W5.heap.size) oa k := fun _ b off ha => .inr (HF.out.own.blockLt (by rw [ha]; rfl)).1
        refine ⟨⟨x, oa, k, oc, L.map Vn.tr⟩, rfl, ?_, (Vn.Rs.agree (S := Old B0 W5.heap.size) (w := wr) ⟨HF.out.reads, hsb, H64.out⟩ (hon7.kp (fun b hS => by rcases hS with h | h <;> omega))).weak (fun b _ h => h.imp id (fun h => by omega)), ?_, Turned.trans_below' HT.out (hon7.below (by omega))⟩
        · show Tr.mk x _ = sh by' fr (.mk x l) d
          rw [sh_mk, if_neg HK.out, HL.out, List.take_of_length_le (by rw [kidS_len, HLX.out]; exact Nat.le_refl _)]
        · have e : lo by' fr (Vn.tr ⟨x, a, k, c, l⟩) d = ((kidL by' fr x l d).take k).any id := by
            show lo by' fr (.mk x l) d = _
            rw [lo_mk, if_neg HK.out, List.take_of_length_le (by rw [kidL_len, HLX.out]; exact Nat.le_refl _)]
          rw [e]
          exact hon7.blk HMr.out (by omega)
end Go.Proofs.Ytbpjaidfpacbfaa.te
