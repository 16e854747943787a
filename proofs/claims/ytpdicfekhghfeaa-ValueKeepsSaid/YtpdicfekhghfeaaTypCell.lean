/-
  Layer 12: the program's record, partType, limited.
-/
import Derived.Test.YtpdicfekhghfeaaTypCells
import Derived.Test.YtpdicfekhghfeaaTrmRow
import Derived.Deep.CutRange
namespace Go.Proofs.Ytpdicfekhghfeaa.ty
open Go.ChangeShapes Go.WideShapes Go.ChangeAt Go.RowKit
open bs tr te
set_option linter.unusedVariables false

set_option maxRecDepth 100000 in
theorem limited_any (c : Nat) (w : World) (hc : c ≤ 100000) : Calls Try.prog 31 #[.int .i64 c] w fun e w' => e = .returned (.int .i64 (lim c : Nat)) ∧ w' = w := by
  go_enter Try.func31, Try.ntmps31
  by_cases h : 64 < c
  · have d0 : decide ((64 : Int) < c) = true := decide_eq_true (by omega)
    have e : lim c = 0 := by unfold lim; rw [if_pos h]
    rw [e]
    clear h e
    go_wp2
    go_ret
    exact ⟨rfl, rfl⟩
  · have d0 : decide ((64 : Int) < c) = false := decide_eq_false (by omega)
    have e : lim c = c := by unfold lim; rw [if_neg h]
    rw [e]
    clear h e
    go_wp2
    go_ret
    exact ⟨rfl, rfl⟩

def FP (S : Nat → Prop) (p : VT) (w : World) (e : Ending) (w' : World) : Prop := ∃ (y : Vn) (b : Bool), e = .returned (.tuple #[y.val, .bool b]) ∧ (b = true → y.Rs S w' ∧ p.lab.k = 34 ∧ p.kids = [y.tr]) ∧ (b = false → ¬ Fld p) ∧ Below w.heap.size w w'

set_option maxRecDepth 100000 in
set_option maxHeartbeats 2000000 in
theorem part_any (S : Nat → Prop) (v : Vn) (w : World) (hv : v.Rs S w) : Calls Try.prog 34 #[v.val] w (FP S v.tr w) := by
  have hW1 : Below w.heap.size w ((w.alloc (.cells #[.int .i64 v.x.k, .int .i64 v.x.n, .string v.x.s, .slice v.a v.m v.c, .int .i64 v.x.f, .int .i64 v.x.t] 24)).alloc (.cells #[.int .i64 0, .int .i64 0, .string ⟨#[]⟩, .slice none 0 0, .int .i64 0, .int .i64 0] 24)) := ((Below.refl _ _).alloc (Nat.le_refl _) _).trans ((below_alloc _ _).mono (by rw [size_alloc]; omega))
  have hX : VB ((w.alloc (.cells #[.int .i64 v.x.k, .int .i64 v.x.n, .string v.x.s, .slice v.a v.m v.c, .int .i64 v.x.f, .int .i64 v.x.t] 24)).alloc (.cells #[.int .i64 0, .int .i64 0, .string ⟨#[]⟩, .slice none 0 0, .int .i64 0, .int .i64 0] 24)) w.heap.size v := (vb_new w v).below (below_alloc _ _)
  have hY : VB ((w.alloc (.cells #[.int .i64 v.x.k, .int .i64 v.x.n, .string v.x.s, .slice v.a v.m v.c, .int .i64 v.x.f, .int .i64 v.x.t] 24)).alloc (.cells #[.int .i64 0, .int .i64 0, .string ⟨#[]⟩, .slice none 0 0, .int .i64 0, .int .i64 0] 24)) (w.heap.size + 1) v0 := by
    have := vb_new0 (w.alloc (.cells #[.int .i64 v.x.k, .int .i64 v.x.n, .string v.x.s, .slice v.a v.m v.c, .int .i64 v.x.f, .int .i64 v.x.t] 24))
    rwa [size_alloc] at this
  have HW := Lib.hid hW1; have HX := Lib.hid hX; have HY := Lib.hid hY
  have HV := Lib.hid hv; have HLN := Lib.hid hv.rd.len
  have hcap := hv.rd.cap; have hmost := hv.rd.most
  clear hv hW1 hX hY
  unfold Vn.val
  go_enter Try.func34, Try.ntmps34
  go_upto_region 1 with fail
  generalize hWW : ((w.alloc (.cells #[.int .i64 v.x.k, .int .i64 v.x.n, .string v.x.s, .slice v.a v.m v.c, .int .i64 v.x.f, .int .i64 v.x.t] 24)).alloc (.cells #[.int .i64 0, .int .i64 0, .string ⟨#[]⟩, .slice none 0 0, .int .i64 0, .int .i64 0] 24)) = W at HW HX HY ⊢
  clear hWW
  have p0 := HX.out.cell 0
  have p1 := HX.out.cell 3
  simp at p0 p1
  by_cases hk : v.x.k = 34
  · have e0 : (v.x.k != 34) = false := by rw [hk]; rfl
    have HK := Lib.hid hk
    clear hk
    by_cases hm : v.m = 1
    · have e1 : ((v.m : Int) != 1) = false := by rw [hm]; rfl
      have HM := Lib.hid hm
      have hm1 : 0 < v.m := by omega
      clear hm
      obtain ⟨b2, o2, x2, ha2, hb2, hx2, hc2⟩ := recs_at HV.out.rd (k := 0) hm1
      obtain ⟨v1, hv1, hr1, c10, c11, c12, c13, c14, c15⟩ := VAs.out hc2
      have d0 : W.cell? ⟨b2, o2 + 0 * 6, none⟩ = some (.int .i64 v1.x.k) := by rw [HW.out.cell (p := ⟨b2, o2 + 0 * 6, none⟩) hb2]; exact c10
      have d1 : W.cell? ⟨b2, o2 + 0 * 6 + 3, none⟩ = some (.slice v1.a v1.m v1.c) := by rw [HW.out.cell (p := ⟨b2, o2 + 0 * 6 + 3, none⟩) hb2]; exact c11
      have d2 : W.cell? ⟨b2, o2 + 0 * 6 + 1, none⟩ = some (.int .i64 v1.x.n) := by rw [HW.out.cell (p := ⟨b2, o2 + 0 * 6 + 1, none⟩) hb2]; exact c12
      have d3 : W.cell? ⟨b2, o2 + 0 * 6 + 2, none⟩ = some (.string v1.x.s) := by rw [HW.out.cell (p := ⟨b2, o2 + 0 * 6 + 2, none⟩) hb2]; exact c13
      have d4 : W.cell? ⟨b2, o2 + 0 * 6 + 4, none⟩ = some (.int .i64 v1.x.f) := by rw [HW.out.cell (p := ⟨b2, o2 + 0 * 6 + 4, none⟩) hb2]; exact c14
      have d5 : W.cell? ⟨b2, o2 + 0 * 6 + 5, none⟩ = some (.int .i64 v1.x.t) := by rw [HW.out.cell (p := ⟨b2, o2 + 0 * 6 + 5, none⟩) hb2]; exact c15
      have HR1 := Lib.hid hr1
      have HV1 := Lib.hid hv1; have HX1 := Lib.hid hx2
      obtain ⟨vx, va, vm, vc, vl⟩ := v
      dsimp only at ha2 p0 p1 HLN hcap hmost hx2
      subst ha2
      clear hr1 hv1 hx2 hc2 c10 c11 c12 c13 c14 c15
      dsimp only at hm1 e0 e1
      simp only [Nat.zero_mul, Nat.add_zero] at d0 d1 d2 d3 d4 d5
      go_wp2_with (refine wpList_store_T rfl _ _ rfl rfl HY.out v1 rfl ?_)
      intro w2 hv2 ho2
      go_wp2
      try simp only [Exit.inBlock, Exit.then]
      have hbb : Below w.heap.size w w2 := HW.out.trans (ho2.below (by omega))
      refine bodyPost_ret (te.results_cell_tmp rfl _ _ (w.heap.size + 1) _ _ _ rfl hv2 Try.underlying24 rfl (by kernel_rfl)) rfl ?_
      refine ⟨v1, true, rfl, fun _ => ⟨HR1.out.below hbb, HK.out, ?_⟩, fun h => (by cases h), hbb⟩
      show vl = [v1.tr]
      have h1 : vl.length = 1 := by have := HLN.out; have := HM.out; omega
      obtain ⟨u, hu⟩ := List.length_eq_one_iff.1 h1
      have h2 := HX1.out
      rw [hu] at h2 ⊢
      rw [HV1.out]
      simpa using h2
    · have e1 : ((v.m : Int) != 1) = true := by rw [bne_iff_ne]; omega
      have HM := Lib.hid hm
      clear hm
      go_wp2_with (refine wpList_store_T rfl _ _ rfl rfl HY.out v0 rfl ?_)
      intro w2 hv2 ho2
      go_wp2
      try simp only [Exit.inBlock, Exit.then]
      have hbb : Below w.heap.size w w2 := HW.out.trans (ho2.below (by omega))
      refine bodyPost_ret (te.results_cell_tmp rfl _ _ (w.heap.size + 1) _ _ _ rfl hv2 Try.underlying24 rfl (by kernel_rfl)) rfl ?_
      refine ⟨v0, false, rfl, fun h => (by cases h), fun _ h => HM.out ?_, hbb⟩
      have h2 : v.l.length = 1 := h.2
      have := HLN.out
      omega
  · have e0 : (v.x.k != 34) = true := by rw [bne_iff_ne]; exact hk
    have HK := Lib.hid hk
    clear hk
    go_wp2_with (refine wpList_store_T rfl _ _ rfl rfl HY.out v0 rfl ?_)
    intro w2 hv2 ho2
    go_wp2
    try simp only [Exit.inBlock, Exit.then]
    have hbb : Below w.heap.size w w2 := HW.out.trans (ho2.below (by omega))
    refine bodyPost_ret (te.results_cell_tmp rfl _ _ (w.heap.size + 1) _ _ _ rfl hv2 Try.underlying24 rfl (by kernel_rfl)) rfl ?_
    exact ⟨v0, false, rfl, fun h => (by cases h), fun _ h => HK.out h.1, hbb⟩

/-- What 'record' answers. -/
def RP (S : Nat → Prop) (M : List VT) (n : Int) (w : World) (e : Ending) (w' : World) : Prop := ∃ (y : Vn) (b : Bool), e = .returned (.tuple #[y.val, .bool b]) ∧ (b = true → y.Rs S w' ∧ y.x.k = 30 ∧ 0 ≤ n ∧ M[n.toNat]? = some y.tr) ∧ (b = false → ∀ g, rc M g n = 0) ∧ Below w.heap.size w w'

theorem rc_kind {M : List VT} {n : Int} {d : VT} (h0 : 0 ≤ n) (hd : M[n.toNat]? = some d) (hk : ¬ d.lab.k = 30) : ∀ g, rc M g n = 0 := by
  intro g
  cases g with
  | zero => rfl
  | succ g => unfold rc; rw [if_pos h0, hd]; exact if_neg hk

set_option maxRecDepth 100000 in
set_option maxHeartbeats 2000000 in
theorem record_any (S : Nat → Prop) (v : Vn) (n : Int) (w : World) (hv : v.Rs S w) (hn : te.I64 n) : Calls Try.prog 33 #[v.val, .int .i64 n] w (RP S v.l n w) := by
  have hn1 := hn.1; have hn2 := hn.2
  have hW1 : Below w.heap.size w ((w.alloc (.cells #[.int .i64 v.x.k, .int .i64 v.x.n, .string v.x.s, .slice v.a v.m v.c, .int .i64 v.x.f, .int .i64 v.x.t] 24)).alloc (.cells #[.int .i64 0, .int .i64 0, .string ⟨#[]⟩, .slice none 0 0, .int .i64 0, .int .i64 0] 24)) := ((Below.refl _ _).alloc (Nat.le_refl _) _).trans ((below_alloc _ _).mono (by rw [size_alloc]; omega))
  have hX : VB ((w.alloc (.cells #[.int .i64 v.x.k, .int .i64 v.x.n, .string v.x.s, .slice v.a v.m v.c, .int .i64 v.x.f, .int .i64 v.x.t] 24)).alloc (.cells #[.int .i64 0, .int .i64 0, .string ⟨#[]⟩, .slice none 0 0, .int .i64 0, .int .i64 0] 24)) w.heap.size v := (vb_new w v).below (below_alloc _ _)
  have hY : VB ((w.alloc (.cells #[.int .i64 v.x.k, .int .i64 v.x.n, .string v.x.s, .slice v.a v.m v.c, .int .i64 v.x.f, .int .i64 v.x.t] 24)).alloc (.cells #[.int .i64 0, .int .i64 0, .string ⟨#[]⟩, .slice none 0 0, .int .i64 0, .int .i64 0] 24)) (w.heap.size + 1) v0 := by
    have := vb_new0 (w.alloc (.cells #[.int .i64 v.x.k, .int .i64 v.x.n, .string v.x.s, .slice v.a v.m v.c, .int .i64 v.x.f, .int .i64 v.x.t] 24))
    rwa [size_alloc] at this
  have HW := Lib.hid hW1; have HX := Lib.hid hX; have HY := Lib.hid hY
  have HV := Lib.hid hv; have HLN := Lib.hid hv.rd.len
  have hcap := hv.rd.cap; have hmost := hv.rd.most
  clear hv hW1 hX hY
  unfold Vn.val
  go_enter Try.func33, Try.ntmps33
  go_upto_region 1 with fail
  generalize hWW : ((w.alloc (.cells #[.int .i64 v.x.k, .int .i64 v.x.n, .string v.x.s, .slice v.a v.m v.c, .int .i64 v.x.f, .int .i64 v.x.t] 24)).alloc (.cells #[.int .i64 0, .int .i64 0, .string ⟨#[]⟩, .slice none 0 0, .int .i64 0, .int .i64 0] 24)) = W at HW HX HY ⊢
  clear hWW
  have p0 := HX.out.cell 0
  have p1 := HX.out.cell 3
  simp at p0 p1
  by_cases hneg : n < 0
  · have e0 : decide (n < 0) = true := decide_eq_true hneg
    have HN := Lib.hid hneg
    clear hneg
    go_wp2_with (refine wpList_store_T rfl _ _ rfl rfl HY.out v0 rfl ?_)
    intro w2 hv2 ho2
    go_wp2
    try simp only [Exit.inBlock, Exit.then]
    have hbb : Below w.heap.size w w2 := HW.out.trans (ho2.below (by omega))
    refine bodyPost_ret (te.results_cell_tmp rfl _ _ (w.heap.size + 1) _ _ _ rfl hv2 Try.underlying24 rfl (by kernel_rfl)) rfl ?_
    exact ⟨v0, false, rfl, fun h => (by cases h), fun _ => fun g => rc_out (.inl HN.out), hbb⟩
  · have e0 : decide (n < 0) = false := decide_eq_false hneg
    obtain ⟨q, rfl⟩ : ∃ q : Nat, n = q := ⟨n.toNat, by omega⟩
    clear hneg
    by_cases hq : q < v.m
    · have e1 : decide ((v.m : Int) ≤ q) = false := decide_eq_false (by omega)
      have e2 : decide (v.m ≤ q) = false := decide_eq_false (by omega)
      obtain ⟨b2, o2, x2, ha2, hb2, hx2, hc2⟩ := recs_at HV.out.rd (k := q) hq
      obtain ⟨v1, hv1, hr1, c10, c11, c12, c13, c14, c15⟩ := VAs.out hc2
      have d0 : W.cell? ⟨b2, o2 + q * 6, none⟩ = some (.int .i64 v1.x.k) := by rw [HW.out.cell (p := ⟨b2, o2 + q * 6, none⟩) hb2]; exact c10
      have d1 : W.cell? ⟨b2, o2 + q * 6 + 3, none⟩ = some (.slice v1.a v1.m v1.c) := by rw [HW.out.cell (p := ⟨b2, o2 + q * 6 + 3, none⟩) hb2]; exact c11
      have d2 : W.cell? ⟨b2, o2 + q * 6 + 1, none⟩ = some (.int .i64 v1.x.n) := by rw [HW.out.cell (p := ⟨b2, o2 + q * 6 + 1, none⟩) hb2]; exact c12
      have d3 : W.cell? ⟨b2, o2 + q * 6 + 2, none⟩ = some (.string v1.x.s) := by rw [HW.out.cell (p := ⟨b2, o2 + q * 6 + 2, none⟩) hb2]; exact c13
      have d4 : W.cell? ⟨b2, o2 + q * 6 + 4, none⟩ = some (.int .i64 v1.x.f) := by rw [HW.out.cell (p := ⟨b2, o2 + q * 6 + 4, none⟩) hb2]; exact c14
      have d5 : W.cell? ⟨b2, o2 + q * 6 + 5, none⟩ = some (.int .i64 v1.x.t) := by rw [HW.out.cell (p := ⟨b2, o2 + q * 6 + 5, none⟩) hb2]; exact c15
      have HR1 := Lib.hid hr1
      have HV1 := Lib.hid hv1; have HX1 := Lib.hid hx2
      obtain ⟨vx, va, vm, vc, vl⟩ := v
      dsimp only at ha2 p0 p1 HLN hcap hmost hx2
      subst ha2
      clear hr1 hv1 hx2 hc2 c10 c11 c12 c13 c14 c15
      dsimp only at hq e1 e2
      by_cases hk : v1.x.k = 30
      · have e3 : (v1.x.k != 30) = false := by rw [hk]; rfl
        have HK := Lib.hid hk
        clear hk
        go_wp2_with (refine wpList_store_T rfl _ _ rfl rfl HY.out v1 rfl ?_)
        intro w2 hv2 ho2
        go_wp2
        try simp only [Exit.inBlock, Exit.then]
        have hbb : Below w.heap.size w w2 := HW.out.trans (ho2.below (by omega))
        refine bodyPost_ret (te.results_cell_tmp rfl _ _ (w.heap.size + 1) _ _ _ rfl hv2 Try.underlying24 rfl (by kernel_rfl)) rfl ?_
        refine ⟨v1, true, rfl, fun _ => ⟨HR1.out.below hbb, HK.out, by omega, ?_⟩, fun h => (by cases h), hbb⟩
        rw [Int.toNat_natCast, HV1.out]
        exact HX1.out
      · have e3 : (v1.x.k != 30) = true := by rw [bne_iff_ne]; exact hk
        have HK := Lib.hid hk
        clear hk
        go_wp2_with (refine wpList_store_T rfl _ _ rfl rfl HY.out v0 rfl ?_)
        intro w2 hv2 ho2
        go_wp2
        try simp only [Exit.inBlock, Exit.then]
        have hbb : Below w.heap.size w w2 := HW.out.trans (ho2.below (by omega))
        refine bodyPost_ret (te.results_cell_tmp rfl _ _ (w.heap.size + 1) _ _ _ rfl hv2 Try.underlying24 rfl (by kernel_rfl)) rfl ?_
        refine ⟨v0, false, rfl, fun h => (by cases h), fun _ => rc_kind (d := x2) (by omega) (by rw [Int.toNat_natCast]; exact HX1.out) (fun h => HK.out ?_), hbb⟩
        rw [← HV1.out] at h
        exact h
    · have e1 : decide ((v.m : Int) ≤ q) = true := decide_eq_true (by omega)
      have e2 : decide (v.m ≤ q) = true := decide_eq_true (by omega)
      have HQ := Lib.hid hq
      clear hq
      go_wp2_with (refine wpList_store_T rfl _ _ rfl rfl HY.out v0 rfl ?_)
      intro w2 hv2 ho2
      go_wp2
      try simp only [Exit.inBlock, Exit.then]
      have hbb : Below w.heap.size w w2 := HW.out.trans (ho2.below (by omega))
      refine bodyPost_ret (te.results_cell_tmp rfl _ _ (w.heap.size + 1) _ _ _ rfl hv2 Try.underlying24 rfl (by kernel_rfl)) rfl ?_
      exact ⟨v0, false, rfl, fun h => (by cases h), fun _ => fun g => rc_out (.inr (by have := HLN.out; have := HQ.out; omega)), hbb⟩
end Go.Proofs.Ytpdicfekhghfeaa.ty
