/-
  Layer 19: the document's Parts.
-/
import Derived.Test.YtpdicfekhghfeaaZerParts
import Derived.Test.YtpdicfekhghfeaaTreesOwn
namespace Go.Proofs.Ytpdicfekhghfeaa.zf
open Go.ChangeShapes Go.WideShapes Go.ChangeAt Go.RowKit
open bs tr te ty
set_option linter.unusedVariables false

theorem cells_one6 (x : te.Vn) : ∀ u ∈ te.Vn.cells x, u.oneCell' = true := by
  intro u hu
  simp [te.Vn.cells] at hu
  rcases hu with rfl | rfl | rfl | rfl | rfl | rfl <;> rfl
theorem recT6 : RecT Try.prog 22 24 (.agg #[.int .i64 0, .int .i64 0, .string ⟨#[]⟩, .slice none 0 0, .int .i64 0, .int .i64 0]) 6 72 := ⟨Try.underlying22, by kernel_rfl, rfl⟩
abbrev OwnT (w : World) (base : Nat) (a : Option Addr) (n c : Nat) (l : List te.Vn) : Prop := OwnS 6 te.Vn.cells w base 24 a n c l
theorem OwnT.reads {w : World} {base : Nat} {a n c} {l : List te.Vn} (h : OwnT w base a n c l) (hl : ∀ x ∈ l, x.Rd w) : te.VS w a n c (l.map te.Vn.tr) := by
  refine Recs.map (E := fun w b o x => te.VA w b o (te.Vn.tr x)) te.Vn.tr ?_ (fun b o x _ _ h => h)
  refine OwnS.recs h (by decide) (fun _ => rfl) _ (fun b o x hx hc => ?_)
  exact te.VA.intro (hl x hx) ⟨hc 0 _ rfl, hc 3 _ rfl, hc 1 _ rfl, hc 2 _ rfl, hc 4 _ rfl, hc 5 _ rfl⟩

def PtP (l : List PT) (w0 w : World) (e : Ending) (w' : World) : Prop := ∃ (g n c : Nat) (L : List te.Vn), e = .returned (.slice (some ⟨g, 0, none⟩) n c) ∧ w.heap.size ≤ g ∧ OwnT w' w.heap.size (some ⟨g, 0, none⟩) n c L ∧ L.map te.Vn.tr = l ∧ (∀ x ∈ L, x.Rd w0) ∧ Below w.heap.size w w'
theorem ownT_of {w w' : World} {base : Nat} {g n c : Nat} {L : List te.Vn} (h : OwnT w base (some ⟨g, 0, none⟩) n c L) (hk : w'.heap[g]? = w.heap[g]?) : OwnT w' base (some ⟨g, 0, none⟩) n c L := by
  refine ⟨⟨h.own.1, ?_⟩, h.num⟩
  rcases h.own.2 with hv | ⟨g', cap, cur, hv, hg, hh, r⟩
  · exact .inl hv
  · refine .inr ⟨g', cap, cur, hv, hg, ?_, r⟩
    simp only [Value.slice.injEq] at hv
    obtain ⟨h1, _, _⟩ := hv
    cases h1
    rw [hk]; exact hh
theorem ownT_fst {w : World} {base : Nat} {b : Option Addr} {n c : Nat} {L : List te.Vn} (h : OwnT w base b n c L) (hn : 0 < n) : ∃ g, b = some ⟨g, 0, none⟩ ∧ base ≤ g := by
  rcases h.cases with ⟨_, h0, _⟩ | ⟨g, hb, hg, _⟩
  · omega
  · exact ⟨g, hb, hg⟩
theorem OwnT.six {w : World} {base : Nat} {g n c : Nat} {L : List te.Vn} (h : OwnT w base (some ⟨g, 0, none⟩) n c L) {k : Nat} {x : te.Vn} (hk : L[k]? = some x) : w.cell? ⟨g, k * 6, none⟩ = some (.int .i64 x.x.k) ∧ w.cell? ⟨g, k * 6 + 3, none⟩ = some (.slice x.a x.m x.c) ∧ w.cell? ⟨g, k * 6 + 1, none⟩ = some (.int .i64 x.x.n) ∧ w.cell? ⟨g, k * 6 + 2, none⟩ = some (.string x.x.s) ∧ w.cell? ⟨g, k * 6 + 4, none⟩ = some (.int .i64 x.x.f) ∧ w.cell? ⟨g, k * 6 + 5, none⟩ = some (.int .i64 x.x.t) := by
  have hr := OwnS.recs h (by decide) (fun _ => rfl) (fun w b o x => te.Six w b o x) (fun b o x hx hc => ⟨hc 0 _ rfl, hc 3 _ rfl, hc 1 _ rfl, hc 2 _ rfl, hc 4 _ rfl, hc 5 _ rfl⟩)
  rcases hr.at' with h0 | ⟨b, off, ha, hlt, hc⟩
  · have := (List.getElem?_eq_some_iff.1 hk).1
    have := h.num
    omega
  · cases ha
    obtain ⟨c0, c3, c1, c2, c4, c5⟩ := hc k x hk
    simp only [Nat.zero_add] at c0 c1 c2 c3 c4 c5
    exact ⟨c0, c3, c1, c2, c4, c5⟩

set_option maxRecDepth 100000 in
set_option maxHeartbeats 4000000 in
theorem rparts_any (m a : te.Vn) (w0 w : World) (hb0 : Below w0.heap.size w0 w) (hm : m.Rd w0) (ha : a.Rd w0) (hg : Gd m.l a.tr) (hM : ∀ d ∈ m.l, d.kids.length ≤ 1000) : Calls Try.prog 24 #[m.val, a.val] w (PtP (pts m.l a.tr) w0 w) := by
  have hW : Below w.heap.size w ((w.alloc (.cells #[.int .i64 m.x.k, .int .i64 m.x.n, .string m.x.s, .slice m.a m.m m.c, .int .i64 m.x.f, .int .i64 m.x.t] 24)).alloc (.cells #[.int .i64 a.x.k, .int .i64 a.x.n, .string a.x.s, .slice a.a a.m a.c, .int .i64 a.x.f, .int .i64 a.x.t] 24)) := ((Below.refl _ _).alloc (Nat.le_refl _) _).alloc (by simp only [te.size_alloc]; omega) _
  have hM1 : VB ((w.alloc (.cells #[.int .i64 m.x.k, .int .i64 m.x.n, .string m.x.s, .slice m.a m.m m.c, .int .i64 m.x.f, .int .i64 m.x.t] 24)).alloc (.cells #[.int .i64 a.x.k, .int .i64 a.x.n, .string a.x.s, .slice a.a a.m a.c, .int .i64 a.x.f, .int .i64 a.x.t] 24)) w.heap.size m := (vb_new w m).below (below_alloc _ _)
  have hX : VB ((w.alloc (.cells #[.int .i64 m.x.k, .int .i64 m.x.n, .string m.x.s, .slice m.a m.m m.c, .int .i64 m.x.f, .int .i64 m.x.t] 24)).alloc (.cells #[.int .i64 a.x.k, .int .i64 a.x.n, .string a.x.s, .slice a.a a.m a.c, .int .i64 a.x.f, .int .i64 a.x.t] 24)) (w.heap.size + 1) a := by
    have := vb_new (w.alloc (.cells #[.int .i64 m.x.k, .int .i64 m.x.n, .string m.x.s, .slice m.a m.m m.c, .int .i64 m.x.f, .int .i64 m.x.t] 24)) a
    rwa [te.size_alloc] at this
  have hws : ((w.alloc (.cells #[.int .i64 m.x.k, .int .i64 m.x.n, .string m.x.s, .slice m.a m.m m.c, .int .i64 m.x.f, .int .i64 m.x.t] 24)).alloc (.cells #[.int .i64 a.x.k, .int .i64 a.x.n, .string a.x.s, .slice a.a a.m a.c, .int .i64 a.x.f, .int .i64 a.x.t] 24)).heap.size = w.heap.size + 1 + 1 := by simp only [te.size_alloc]
  have HW := Lib.hid hW; have HM := Lib.hid hM1; have HX := Lib.hid hX; have HWS := Lib.hid hws
  have HMR := Lib.hid hm; have HV := Lib.hid ha; have HG := Lib.hid hg; have HB0 := Lib.hid hb0
  have hmcap := hm.1.cap; have hmmost := hm.1.most; have hacap := ha.1.cap; have hamost := ha.1.most
  have hlen := pts_len' hg hM
  clear hW hM1 hX hm ha hg hws hM hb0
  unfold te.Vn.val
  go_enter Try.func24, Try.ntmps24
  go_upto_region 1 with fail
  generalize hWW : ((w.alloc (.cells #[.int .i64 m.x.k, .int .i64 m.x.n, .string m.x.s, .slice m.a m.m m.c, .int .i64 m.x.f, .int .i64 m.x.t] 24)).alloc (.cells #[.int .i64 a.x.k, .int .i64 a.x.n, .string a.x.s, .slice a.a a.m a.c, .int .i64 a.x.f, .int .i64 a.x.t] 24)) = W at HW HM HX HWS ⊢
  clear hWW
  have HB1 : Hid (Below w.heap.size w (W.alloc (.cells #[] 24))) := Lib.hid (HW.out.alloc HW.out.size _)
  have HM1 := Lib.hid (HM.out.below (below_alloc W (.cells #[] 24))); have HX1 := Lib.hid (HX.out.below (below_alloc W (.cells #[] 24)))
  have HO1 : Hid (OwnT (W.alloc (.cells #[] 24)) (w.heap.size + 1 + 1) (some ⟨w.heap.size + 1 + 1, 0, none⟩) 0 0 []) := by
    have h := OwnS.made0 (size := 6) (cells := te.Vn.cells) W (w.heap.size + 1 + 1) 24 (by have := HWS.out; omega)
    rw [HWS.out] at h
    exact Lib.hid h
  go_upto_region 2 with fail
  rw [HWS.out]
  have hs1 : w.heap.size + 1 + 1 ≤ (W.alloc (.cells #[] 24)).heap.size := by rw [te.size_alloc, HWS.out]; omega
  generalize hWW : W.alloc (.cells #[] 24) = V at HB1 HM1 HX1 HO1 hs1 ⊢
  clear hWW HW HM HX
  have p0 := HX1.out.cell 0; have p1 := HX1.out.cell 1; have p3 := HX1.out.cell 3; have q3 := HM1.out.cell 3
  simp at p0 p1 p3 q3
  rcases HG.out with ⟨h1, h2⟩ | ⟨u, q, h1, h2, h3, h4, h5⟩ | ⟨q, d, h1, h2, h3, h4, h5, h6⟩
  · have h1' : a.x.k = 1 ∨ a.x.k = 2 := h1
    have HP := Lib.hid (pts_one (M := m.l) h1)
    have c3 : (a.x.k == 3) = false := by rw [beq_eq_false_iff_ne]; omega
    have c4 : (a.x.k == 4) = false := by rw [beq_eq_false_iff_ne]; omega
    clear h1 h1' h2 HG
    go_wp2
    go_ret
    exact ⟨_, 0, 0, [], rfl, by omega, OwnS.mono HO1.out (by omega), by rw [HP.out]; rfl, fun x hx => (by cases hx), HB1.out⟩
  · have h1' : a.x.k = 3 := h1
    have h2' : a.l = [u] := h2
    have h3' : a.x.n = (q : Int) := h3
    have HP := Lib.hid (pts_arr (M := m.l) h1 h2 h3)
    have c3 : (a.x.k == 3) = true := by rw [beq_iff_eq]; omega
    have c4 : (a.x.k == 4) = false := by rw [beq_eq_false_iff_ne]; omega
    rw [h3'] at p1
    obtain ⟨b2, o2, y, ha2, hb2, hqm, hy, hr, _⟩ := kid HV.out (k := 0) (u := u) (by rw [h2']; rfl)
    have HY := Lib.hid hy; have HYR := Lib.hid hr
    have HA2 := Lib.hid ha2
    have H3 := Lib.hid h3'; have H2 : Hid (a.l[0]? = some u) := Lib.hid (by rw [h2']; rfl)
    have hq2 : q ≤ 16 := h5
    clear h1 h1' h2 h2' h3 h3' HG hy hr ha2
    go_wp2_with fail
    go_loopw [5, 6] (fun out i wr => ∃ (k : Nat) (b : Option Addr) (c : Nat) (L : List te.Vn), k ≤ q ∧ i = .int .i64 k ∧ out = .slice b k c ∧ Hid (OwnT wr (w.heap.size + 1 + 1) b k c L) ∧ Hid (L.map te.Vn.tr = (pts m.l a.tr).take k) ∧ Hid (∀ x ∈ L, x.Rd w0) ∧ Hid (Below (w.heap.size + 1 + 1) V wr)) (fun _ i _ => q - (intOf i).toNat)
    case atStart => exact ⟨0, _, 0, [], by omega, rfl, rfl, HO1, Lib.hid rfl, Lib.hid (fun x hx => by cases hx), Lib.hid (Below.refl _ _)⟩
    case round =>
      obtain ⟨k, b, c, L, hk, rfl, rfl, HOr, HL, HLR, HBr⟩ := hrel
      have hx2 := HX1.out.of (HBr.out.block (w.heap.size + 1) (by omega))
      have HBX := Lib.hid (HB1.out.trans (HBr.out.mono (by omega)))
      have HBW := Lib.hid (HB0.out.trans (HBX.out.mono HB0.out.size))
      clear p0 p1 p3 q3
      have p0 := hx2.cell 0; have p1 := hx2.cell 1; have p3 := hx2.cell 3
      simp at p0 p1 p3
      have h3 := H3.out
      rw [h3] at p1
      clear hx2 h3
      by_cases hkq : k < q
      · obtain ⟨b3, o3, x, ha3, hb3, hqm3, hx, hxr, d0, d3, d1, d2, d4, d5⟩ := kid' HV.out HBW.out (k := 0) (u := u) H2.out
        simp only [Nat.zero_mul, Nat.add_zero] at d0 d1 d2 d3 d4 d5
        rw [ha3] at p3
        have HXT := Lib.hid hx; have HXR := Lib.hid hxr
        have htk : (pts m.l a.tr)[k]? = some u := by rw [HP.out, List.getElem?_replicate, if_pos hkq]
        have HTK := Lib.hid htk
        have e0 : decide ((k : Int) < (q : Int)) = true := decide_eq_true (by omega)
        have e1 : decide (k < q) = true := decide_eq_true (by omega)
        have e2 : (k : Int) < (q : Int) := by omega
        clear htk hx hxr ha3
        have hoa : OwnT (wr.alloc (.cells #[.int .i64 x.x.k, .int .i64 x.x.n, .string x.x.s, .slice x.a x.m x.c, .int .i64 x.x.f, .int .i64 x.x.t] 24)) (w.heap.size + 1 + 1) b k c L := HOr.out.below (below_alloc _ _)
        have hba : w.heap.size + 1 + 1 ≤ (wr.alloc (.cells #[.int .i64 x.x.k, .int .i64 x.x.n, .string x.x.s, .slice x.a x.m x.c, .int .i64 x.x.f, .int .i64 x.x.t] 24)).heap.size := by have := HBr.out.size; rw [te.size_alloc]; omega
        have HOA := Lib.hid hoa
        clear hoa
        go_wp2_with (at_builtin; refine wpList_append_s recT6 (by decide) rfl (.tmp 19) (.tmp 24) rfl (w.heap.size + 1 + 1) rfl HOA.out rfl x rfl (cells_one6 x) (src_new _ (te.Vn.cells x) _) (by omega) (by unfold maxLen; omega) hba ?_)
        intro a5 c5 w5 ho5 hb5
        have HO5 := Lib.hid ho5
        have HB5 : Hid (Below (w.heap.size + 1 + 1) V w5) := Lib.hid (HBr.out.trans (((Below.refl _ _).alloc (by have := HBr.out.size; omega) _).trans hb5))
        have HL5 : Hid ((L ++ [x]).map te.Vn.tr = (pts m.l a.tr).take (k + 1)) := Lib.hid (by rw [List.map_append, HL.out, List.take_add_one, HTK.out, List.map_singleton, HXT.out]; rfl)
        have HLR5 : Hid (∀ z ∈ L ++ [x], z.Rd w0) := Lib.hid (fun z hz => (List.mem_append.1 hz).elim (HLR.out z) (fun h => by rw [List.mem_singleton] at h; subst h; exact HXR.out))
        clear ho5 hb5
        go_wp2
        go_roundw
        case rel => exact ⟨k + 1, a5, c5, L ++ [x], by omega, by go_num, rfl, HO5, HL5, HLR5, HB5⟩
        case measure => simp [intOf]; omega
      · have hke : k = q := by omega
        subst hke
        have e0 : decide ((k : Int) < (k : Int)) = false := decide_eq_false (by omega)
        have q3 := HX1.out
        clear q3
        obtain ⟨g, rfl, hg⟩ := ownT_fst HOr.out (by omega)
        go_wp2
        go_ret
        exact ⟨g, k, c, L, rfl, by omega, OwnS.mono HOr.out (by omega), by rw [HL.out, List.take_of_length_le (by rw [HP.out]; simp)], HLR.out, HBX.out⟩
  · have h1' : a.x.k = 4 := h1
    have h3' : a.x.n = (q : Int) := h3
    have HP := Lib.hid (pts_rec (M := m.l) h1 h3 h4)
    have c3 : (a.x.k == 3) = false := by rw [beq_eq_false_iff_ne]; omega
    have c4 : (a.x.k == 4) = true := by rw [beq_iff_eq]; omega
    rw [h3'] at p1
    obtain ⟨b2, o2, y, ha2, hb2, hqm, hy, hr, d0, d3, d1, d2, d4, d5⟩ := kid' HMR.out (HB0.out.trans (HB1.out.mono HB0.out.size)) h4
    rw [ha2] at q3
    have HY := Lib.hid hy; have HYR := Lib.hid hr
    have b0 : decide ((m.m : Int) ≤ (q : Int)) = false := decide_eq_false (by omega)
    have b1 : decide (m.m ≤ q) = false := decide_eq_false (by omega)
    have b3 : decide ((q : Int) < 0) = false := decide_eq_false (by omega)
    have hpl : (pts m.l a.tr).length = y.m := by rw [pts_rec (M := m.l) h1 h3 h4, List.length_map, ← hy]; exact hr.1.len
    have HPL := Lib.hid hpl
    rw [hpl] at hlen
    have HF := Lib.hid h6
    have hya : y.m ≤ y.c := hr.1.cap
    have hyb : y.c ≤ 9223372036854775807 := hr.1.most
    have hyp : 0 < y.m := by rw [← hpl, pts_rec (M := m.l) h1 h3 h4, List.length_map]; exact List.length_pos_iff.2 h5
    obtain ⟨b4, o4, hya4⟩ : ∃ b4 o4, y.a = some ⟨b4, o4, none⟩ := by
      obtain ⟨p, hp⟩ : ∃ p, y.l[0]? = some p := ⟨_, List.getElem?_eq_getElem (by have := hr.1.len; omega)⟩
      obtain ⟨b4, o4, z, hz, _⟩ := kid hr hp
      exact ⟨b4, o4, hz⟩
    rw [hya4] at d3
    have HYA := Lib.hid hya4
    clear h1 h1' h3 h3' h4 h5 h6 HG hy hr hpl hya4 ha2
    go_wp2_with fail
    go_loopw [5, 8] (fun out i wr => ∃ (k : Nat) (b : Option Addr) (c : Nat) (L : List te.Vn), k ≤ y.m ∧ i = .int .i64 k ∧ out = .slice b k c ∧ Hid (OwnT wr (w.heap.size + 1 + 1) b k c L) ∧ Hid (L.map te.Vn.tr = (pts m.l a.tr).take k) ∧ Hid (∀ x ∈ L, x.Rd w0) ∧ Hid (Below (w.heap.size + 1 + 1) V wr)) (fun _ i _ => y.m - (intOf i).toNat)
    case atStart => exact ⟨0, _, 0, [], by omega, rfl, rfl, HO1, Lib.hid rfl, Lib.hid (fun x hx => by cases hx), Lib.hid (Below.refl _ _)⟩
    case round =>
      obtain ⟨k, b, c, L, hk, rfl, rfl, HOr, HL, HLR, HBr⟩ := hrel
      have HBX := Lib.hid (HB1.out.trans (HBr.out.mono (by omega)))
      have HBW := Lib.hid (HB0.out.trans (HBX.out.mono HB0.out.size))
      clear p0 p1 p3 q3 d0 d1 d2 d3 d4 d5
      by_cases hkq : k < y.m
      · obtain ⟨p, hp⟩ : ∃ p, y.l[k]? = some p := ⟨_, List.getElem?_eq_getElem (by have := HYR.out.1.len; omega)⟩
        obtain ⟨b5, o5, z, ha5, hb5, hqm5, hz, hzr, e0, e3, e1, e2, e4, e5⟩ := kid' HYR.out HBW.out hp
        rw [HYA.out] at ha5
        cases ha5
        have hpd : d.kids[k]? = some p := by rw [← hp, ← HY.out]; rfl
        have hf := HF.out p (List.mem_of_getElem? hpd)
        obtain ⟨u, hpu⟩ := List.length_eq_one_iff.1 hf.2
        have hzl : z.l[0]? = some u := by
          have : z.l = p.kids := by rw [← hz]; rfl
          rw [this, hpu]; rfl
        obtain ⟨b6, o6, x, ha6, hb6, h0m, hx, hxr, f0, f3, f1, f2, f4, f5⟩ := kid' hzr HBW.out hzl
        simp only [Nat.zero_mul, Nat.add_zero] at f0 f1 f2 f3 f4 f5
        rw [ha6] at e3
        have HXT := Lib.hid hx; have HXR := Lib.hid hxr
        have htk : (pts m.l a.tr)[k]? = some u := by
          rw [HP.out, List.getElem?_map, hpd]
          show some (sub p) = _
          unfold sub
          rw [hpu]
          rfl
        have HTK := Lib.hid htk
        have zcap := hzr.1.cap; have zmost := hzr.1.most
        have g0 : decide ((y.m : Int) ≤ (k : Int)) = false := decide_eq_false (by omega)
        have g1 : decide (y.m ≤ k) = false := decide_eq_false (by omega)
        have g3 : decide ((k : Int) < 0) = false := decide_eq_false (by omega)
        have g4 : decide ((k : Int) < (y.m : Int)) = true := decide_eq_true (by omega)
        have g5 : (k : Int) < (y.m : Int) := by omega
        clear htk hx hxr hz hzr hpd hf hpu hzl hp e0 e1 e2 e4 e5
        have hoa : OwnT (wr.alloc (.cells #[.int .i64 x.x.k, .int .i64 x.x.n, .string x.x.s, .slice x.a x.m x.c, .int .i64 x.x.f, .int .i64 x.x.t] 24)) (w.heap.size + 1 + 1) b k c L := HOr.out.below (below_alloc _ _)
        have hba : w.heap.size + 1 + 1 ≤ (wr.alloc (.cells #[.int .i64 x.x.k, .int .i64 x.x.n, .string x.x.s, .slice x.a x.m x.c, .int .i64 x.x.f, .int .i64 x.x.t] 24)).heap.size := by have := HBr.out.size; rw [te.size_alloc]; omega
        have HOA := Lib.hid hoa
        clear hoa
        go_wp2_with (at_builtin; refine wpList_append_s recT6 (by decide) rfl (.tmp 42) (.tmp 50) rfl (w.heap.size + 1 + 1) rfl HOA.out rfl x rfl (cells_one6 x) (src_new _ (te.Vn.cells x) _) (by omega) (by unfold maxLen; omega) hba ?_)
        intro a5 c5 w5 ho5 hb5
        have HO5 := Lib.hid ho5
        have HB5 : Hid (Below (w.heap.size + 1 + 1) V w5) := Lib.hid (HBr.out.trans (((Below.refl _ _).alloc (by have := HBr.out.size; omega) _).trans hb5))
        have HL5 : Hid ((L ++ [x]).map te.Vn.tr = (pts m.l a.tr).take (k + 1)) := Lib.hid (by rw [List.map_append, HL.out, List.take_add_one, HTK.out, List.map_singleton, HXT.out]; rfl)
        have HLR5 : Hid (∀ z ∈ L ++ [x], z.Rd w0) := Lib.hid (fun z hz => (List.mem_append.1 hz).elim (HLR.out z) (fun h => by rw [List.mem_singleton] at h; subst h; exact HXR.out))
        clear ho5 hb5
        go_wp2
        go_roundw
        case rel => exact ⟨k + 1, a5, c5, L ++ [x], by omega, by go_num, rfl, HO5, HL5, HLR5, HB5⟩
        case measure => simp [intOf]; omega
      · have hke : k = y.m := by omega
        subst hke
        have e0 : decide ((y.m : Int) < (y.m : Int)) = false := decide_eq_false (by omega)
        obtain ⟨g, rfl, hg⟩ := ownT_fst HOr.out hyp
        go_wp2
        go_ret
        exact ⟨g, y.m, c, L, rfl, by omega, OwnS.mono HOr.out (by omega), by rw [HL.out, List.take_of_length_le (by rw [HPL.out]; omega)], HLR.out, HBX.out⟩
end Go.Proofs.Ytpdicfekhghfeaa.zf
