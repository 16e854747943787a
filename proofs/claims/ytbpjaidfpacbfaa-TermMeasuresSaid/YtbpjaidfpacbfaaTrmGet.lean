/-
  Layer 6: what a way leads to: Get, and the document's Leads, Get.
-/
import Derived.Test.YtbpjaidfpacbfaaTrmRow
import Derived.Test.YtbpjaidfpacbfaaCutI
import Derived.BigQuiet
namespace Go.Proofs.Ytbpjaidfpacbfaa.te
open Go.ChangeShapes Go.WideShapes Go.ChangeAt Go.RowKit
open bs tr
set_option linter.unusedVariables false

set_option maxRecDepth 100000 in
set_option maxHeartbeats 2000000 in
theorem get_any (v : Vn) (pa : Option Addr) (n c : Nat) (p : List Int) (w : World) (hv : v.Rd w) (hp : I64s w pa n c p) : Calls Try.prog 22 #[v.val, .slice pa n c] w (GP v.tr p w) := by
  have hcap := hp.cap; have hmost := hp.most; have hlen := hp.len
  have hW1 : Below w.heap.size w ((w.alloc (.cells #[.int .i64 v.x.k, .int .i64 v.x.n, .string v.x.s, .slice v.a v.m v.c, .int .i64 v.x.f, .int .i64 v.x.t] 24)).alloc (.cells #[.int .i64 0, .int .i64 0, .string ⟨#[]⟩, .slice none 0 0, .int .i64 0, .int .i64 0] 24)) := ((Below.refl _ _).alloc (Nat.le_refl _) _).alloc (by simp) _
  have hX : VB ((w.alloc (.cells #[.int .i64 v.x.k, .int .i64 v.x.n, .string v.x.s, .slice v.a v.m v.c, .int .i64 v.x.f, .int .i64 v.x.t] 24)).alloc (.cells #[.int .i64 0, .int .i64 0, .string ⟨#[]⟩, .slice none 0 0, .int .i64 0, .int .i64 0] 24)) w.heap.size v := (vb_new w v).below (below_alloc _ _)
  have hY : VB ((w.alloc (.cells #[.int .i64 v.x.k, .int .i64 v.x.n, .string v.x.s, .slice v.a v.m v.c, .int .i64 v.x.f, .int .i64 v.x.t] 24)).alloc (.cells #[.int .i64 0, .int .i64 0, .string ⟨#[]⟩, .slice none 0 0, .int .i64 0, .int .i64 0] 24)) (w.heap.size + 1) v0 := by
    have := vb_new0 (w.alloc (.cells #[.int .i64 v.x.k, .int .i64 v.x.n, .string v.x.s, .slice v.a v.m v.c, .int .i64 v.x.f, .int .i64 v.x.t] 24))
    rwa [size_alloc] at this
  have HW := Lib.hid hW1; have HX := Lib.hid hX; have HY := Lib.hid hY
  have HV := Lib.hid hv; have HP := Lib.hid hp
  have HLN := Lib.hid hlen
  clear hv hW1 hX hY hp hlen
  unfold Vn.val
  go_enter Try.func22, Try.ntmps22
  go_wp2_with fail
  generalize hWW : ((w.alloc (.cells #[.int .i64 v.x.k, .int .i64 v.x.n, .string v.x.s, .slice v.a v.m v.c, .int .i64 v.x.f, .int .i64 v.x.t] 24)).alloc (.cells #[.int .i64 0, .int .i64 0, .string ⟨#[]⟩, .slice none 0 0, .int .i64 0, .int .i64 0] 24)) = W at HW HX HY ⊢
  clear hWW
  go_loopw [7, 10] (fun s7 i wr => ∃ (k : Nat) (x : Vn), k ≤ n ∧ i = .int .i64 k ∧ Hid (Below w.heap.size w wr) ∧ Hid (VB wr w.heap.size x) ∧ Hid (VB wr (w.heap.size + 1) v0) ∧ Hid (x.Rd w) ∧ Hid (Tr.at' v.tr p = Tr.at' x.tr (p.drop k))) (fun _ i _ => n - (intOf i).toNat)
  case atStart => exact ⟨0, v, by omega, rfl, HW, HX, HY, HV, Lib.hid rfl⟩
  case round =>
    obtain ⟨k, x, hk2, rfl, HR, HXX, HYY, HRX, HE⟩ := hrel
    have p1 := HXX.out.cell 3
    simp at p1
    have hRW := HRX.out.below HR.out
    have HRD := Lib.hid hRW
    have hcapx := hRW.1.cap; have hmostx := hRW.1.most
    have HLX := Lib.hid hRW.1.len
    clear hRW
    by_cases hlt : k < n
    · rcases (HP.out.below HR.out).at' with h0 | ⟨b, off, rfl, hcell⟩
      · omega
      have hz := hcell k hlt
      have hz1 := HP.out.all.getD k
      have hd := drop_at (l := p) (k := k) (by have := HLN.out; omega)
      have HD := Lib.hid hd
      obtain ⟨z, hzz⟩ : ∃ z, p.getD k 0 = z := ⟨_, rfl⟩
      rw [hzz] at hz hz1
      have HZZ := Lib.hid hzz
      clear hcell hd hzz
      by_cases hz0 : z < 0
      · go_wp2_with (refine wpList_store_T rfl _ _ rfl rfl HYY.out v0 rfl ?_)
        intro w2 hv2 ho2
        go_wp2
        try simp only [Exit.inBlock, Exit.then]
        refine bodyPost_ret (results_cell_tmp rfl _ _ (w.heap.size + 1) _ _ _ rfl hv2 Try.underlying24 rfl (by kernel_rfl)) rfl ?_
        refine ⟨v0, false, rfl, HR.out.trans (ho2.below (by omega)), v0_rd _, fun h => (by cases h), fun _ => ⟨?_, rfl⟩⟩
        rw [HE.out, HD.out, HZZ.out, Tr.at_cons, if_neg (by omega)]
      · by_cases hzm : z < x.m
        · obtain ⟨q, rfl⟩ : ∃ q : Nat, z = q := ⟨z.toNat, by omega⟩
          obtain ⟨b2, o2, x2, ha2, hb2, hx2, hc2⟩ := recs_at HRX.out.1 (k := q) (by omega)
          obtain ⟨v1, hv1, hr1, c10, c11, c12, c13, c14, c15⟩ := VA.out hc2
          have d0 : wr.cell? ⟨b2, o2 + q * 6, none⟩ = some (.int .i64 v1.x.k) := by rw [HR.out.cell (p := ⟨b2, o2 + q * 6, none⟩) hb2]; exact c10
          have d1 : wr.cell? ⟨b2, o2 + q * 6 + 3, none⟩ = some (.slice v1.a v1.m v1.c) := by rw [HR.out.cell (p := ⟨b2, o2 + q * 6 + 3, none⟩) hb2]; exact c11
          have d2 : wr.cell? ⟨b2, o2 + q * 6 + 1, none⟩ = some (.int .i64 v1.x.n) := by rw [HR.out.cell (p := ⟨b2, o2 + q * 6 + 1, none⟩) hb2]; exact c12
          have d3 : wr.cell? ⟨b2, o2 + q * 6 + 2, none⟩ = some (.string v1.x.s) := by rw [HR.out.cell (p := ⟨b2, o2 + q * 6 + 2, none⟩) hb2]; exact c13
          have d4 : wr.cell? ⟨b2, o2 + q * 6 + 4, none⟩ = some (.int .i64 v1.x.f) := by rw [HR.out.cell (p := ⟨b2, o2 + q * 6 + 4, none⟩) hb2]; exact c14
          have d5 : wr.cell? ⟨b2, o2 + q * 6 + 5, none⟩ = some (.int .i64 v1.x.t) := by rw [HR.out.cell (p := ⟨b2, o2 + q * 6 + 5, none⟩) hb2]; exact c15
          have HR1 := Lib.hid hr1
          have HV1 := Lib.hid hv1; have HX1 := Lib.hid hx2
          obtain ⟨xx, xa, xm, xc, xl⟩ := x
          dsimp only at ha2 p1 hzm hcapx hmostx hx2
          subst ha2
          clear hr1 hv1 hx2 hc2 c10 c11 c12 c13 c14 c15 HLX HRD
          go_wp2_with (refine wpList_store_T rfl _ _ rfl rfl HXX.out v1 rfl ?_)
          intro w2 hv2 ho2
          have HF := Lib.hid hv2; have HF2 := Lib.hid (ho2.blk HYY.out (by omega)); have HB2 := Lib.hid (HR.out.trans (ho2.below (Nat.le_refl _)))
          clear hv2 ho2 d0 d1 d2 d3 d4 d5 p1
          go_wp2
          go_roundw
          case rel =>
            refine ⟨k + 1, v1, by omega, by go_num, HB2, HF, HF2, HR1, Lib.hid ?_⟩
            rw [HE.out, HD.out, HZZ.out]
            rw [Tr.at_kid (y := x2) (by exact HX1.out), ← HV1.out]
          case measure => simp [intOf]; omega
        · go_wp2_with (refine wpList_store_T rfl _ _ rfl rfl HYY.out v0 rfl ?_)
          intro w2 hv2 ho2
          go_wp2
          try simp only [Exit.inBlock, Exit.then]
          refine bodyPost_ret (results_cell_tmp rfl _ _ (w.heap.size + 1) _ _ _ rfl hv2 Try.underlying24 rfl (by kernel_rfl)) rfl ?_
          refine ⟨v0, false, rfl, HR.out.trans (ho2.below (by omega)), v0_rd _, fun h => (by cases h), fun _ => ⟨?_, rfl⟩⟩
          rw [HE.out, HD.out, HZZ.out, Tr.at_cons, if_neg]
          have := HLX.out
          show ¬ (0 ≤ z ∧ z < ((x.l.length : Nat) : Int))
          omega
    · go_wp2_with (first | (refine wpList_load_T rfl _ rfl rfl HXX.out ?_) | (refine wpList_store_T rfl _ _ rfl rfl HYY.out x rfl ?_))
      intro w2 hv2 ho2
      go_wp2
      try simp only [Exit.inBlock, Exit.then]
      have hkn : p.drop k = [] := List.drop_eq_nil_of_le (by have := HLN.out; omega)
      refine bodyPost_ret (results_cell_tmp rfl _ _ (w.heap.size + 1) _ _ _ rfl hv2 Try.underlying24 rfl (by kernel_rfl)) rfl ?_
      have hbb : Below w.heap.size w w2 := HR.out.trans (ho2.below (by omega))
      refine ⟨x, true, rfl, hbb, HRX.out.below hbb, fun _ => ?_, fun h => (by cases h)⟩
      rw [HE.out, hkn, Tr.at_nil]

/-- What Leads answers. -/
def LdP (t : VT) (p : List Int) (w : World) (e : Ending) (w' : World) : Prop := ∃ r : Bool, e = .returned (.bool r) ∧ (r = true ↔ (Tr.at' t p).isSome = true) ∧ Below w.heap.size w w'

set_option maxRecDepth 100000 in
set_option maxHeartbeats 2000000 in
theorem rleads_any (p : List Int) : ∀ (v : Vn) (pa : Option Addr) (n c : Nat) (w : World), v.Rd w → I64s w pa n c p → Calls Try.prog 24 #[v.val, .slice pa n c] w (LdP v.tr p w) := by
  induction p with
  | nil =>
    intro v pa n c w hv hp
    have hlen := hp.len
    have hn : n = 0 := hlen.symm
    subst hn
    have hW1 : Below w.heap.size w (w.alloc (.cells #[.int .i64 v.x.k, .int .i64 v.x.n, .string v.x.s, .slice v.a v.m v.c, .int .i64 v.x.f, .int .i64 v.x.t] 24)) := ((Below.refl _ _).alloc (Nat.le_refl _) _)
    have HW := Lib.hid hW1
    clear hv hp hW1 hlen
    unfold Vn.val
    go_enter Try.func24, Try.ntmps24
    go_wp2
    go_ret
    exact ⟨true, rfl, by simp [Tr.at_nil], HW.out⟩
  | cons z p ih =>
    intro v pa n c w hv hp
    have hcap := hp.cap; have hmost := hp.most
    have hlen : p.length + 1 = n := hp.len
    subst hlen
    obtain ⟨x, va, m, vc, l⟩ := v
    have hW1 : Below w.heap.size w (w.alloc (.cells #[.int .i64 x.k, .int .i64 x.n, .string x.s, .slice va m vc, .int .i64 x.f, .int .i64 x.t] 24)) := ((Below.refl _ _).alloc (Nat.le_refl _) _)
    have hX : Blk (w.alloc (.cells #[.int .i64 x.k, .int .i64 x.n, .string x.s, .slice va m vc, .int .i64 x.f, .int .i64 x.t] 24)) w.heap.size #[.int .i64 x.k, .int .i64 x.n, .string x.s, .slice va m vc, .int .i64 x.f, .int .i64 x.t] 24 := Blk.new w _ _
    have hp1 := hp.below hW1
    have hv1 := hv.below hW1
    obtain ⟨hvl, hvx⟩ := hv1
    dsimp only at hvl hvx
    have hcapx := hvl.cap; have hmostx := hvl.most
    have hlx := hvl.len
    rcases hp1.at' with h0 | ⟨b, off, rfl, hcell⟩
    · omega
    have hz := hcell 0 (by omega)
    simp only [List.getD_cons_zero, Nat.add_zero] at hz
    have hz1 := hp1.all z (by simp)
    have HW := Lib.hid hW1; have HX := Lib.hid hX; have HV := Lib.hid hvl; have HP := Lib.hid hp1; have HLX := Lib.hid hlx
    have HIH := Lib.hid ih
    have hs := fun W => slice_tail_i (some ⟨b, off, none⟩) (p.length + 1) c 1 1 rfl (by omega) hcap hmost (by simp) W
    clear hv hp hp1 hW1 hX hvl hcell hlx ih
    unfold Vn.val
    go_enter Try.func24, Try.ntmps24
    by_cases hz0 : z < 0
    · have d0 : decide ((0 : Int) ≤ z) = false := by rw [decide_eq_false_iff_not]; omega
      go_wp2_with fail
      generalize hWW : (w.alloc (.cells #[.int .i64 x.k, .int .i64 x.n, .string x.s, .slice va m vc, .int .i64 x.f, .int .i64 x.t] 24)) = W at HW HX HV HP hz ⊢
      have p0 := HX.out.cell 0; have p1 := HX.out.cell 3; have p2 := HX.out.cell 1; have p3 := HX.out.cell 2; have p4 := HX.out.cell 4; have p5 := HX.out.cell 5
      simp at p0 p1 p2 p3 p4 p5
      clear hWW
      go_quiet (fail)
      go_wp2
      go_ret
      refine ⟨false, rfl, ?_, below_drewN HW.out _⟩
      rw [Tr.at_cons, if_neg (by omega)]; simp
    · by_cases hzm : z < m
      · obtain ⟨q, rfl⟩ : ∃ q : Nat, z = q := ⟨z.toNat, by omega⟩
        obtain ⟨b1, o1, x1, rfl, hb1, hx1, hc1⟩ := recs_at HV.out (k := q) (by omega)
        obtain ⟨v1, hv1, hr1, c10, c11, c12, c13, c14, c15⟩ := VA.out hc1
        obtain ⟨z1, aa1, am1, ac1, al1⟩ := v1
        dsimp only at c10 c11 c12 c13 c14 c15
        have HR1 := Lib.hid hr1; have HV1 := Lib.hid hv1; have HX1 := Lib.hid hx1
        have d0 : decide ((0 : Int) ≤ q) = true := by rw [decide_eq_true_iff]; omega
        have d1 : decide ((q : Int) < m) = true := by rw [decide_eq_true_iff]; omega
        clear hr1 hv1 hx1 hc1
        go_wp2_with fail
        generalize hWW : (w.alloc (.cells #[.int .i64 x.k, .int .i64 x.n, .string x.s, .slice (some ⟨b1, o1, none⟩) m vc, .int .i64 x.f, .int .i64 x.t] 24)) = W at HW HX HV HP HR1 hz c10 c11 c12 c13 c14 c15 ⊢
        clear hWW
        have p0 := HX.out.cell 0; have p1 := HX.out.cell 3; have p2 := HX.out.cell 1; have p3 := HX.out.cell 2; have p4 := HX.out.cell 4; have p5 := HX.out.cell 5
        simp at p0 p1 p2 p3 p4 p5
        have hKeep : ∀ V : World, Below W.heap.size W V → V.cell? ⟨b, off, none⟩ = some (.int .i64 q) ∧ V.cell? ⟨w.heap.size, 3, none⟩ = some (.slice (some ⟨b1, o1, none⟩) m vc) ∧ V.cell? ⟨b1, o1 + q * 6, none⟩ = some (.int .i64 z1.k) ∧ V.cell? ⟨b1, o1 + q * 6 + 3, none⟩ = some (.slice aa1 am1 ac1) ∧ V.cell? ⟨b1, o1 + q * 6 + 1, none⟩ = some (.int .i64 z1.n) ∧ V.cell? ⟨b1, o1 + q * 6 + 2, none⟩ = some (.string z1.s) ∧ V.cell? ⟨b1, o1 + q * 6 + 4, none⟩ = some (.int .i64 z1.f) ∧ V.cell? ⟨b1, o1 + q * 6 + 5, none⟩ = some (.int .i64 z1.t) := fun V hV =>
          ⟨by rw [hV.cell (World.block_lt_of_cell? W _ hz)]; exact hz, by rw [hV.cell (World.block_lt_of_cell? W _ p1)]; exact p1, by rw [hV.cell (World.block_lt_of_cell? W _ c10)]; exact c10, by rw [hV.cell (World.block_lt_of_cell? W _ c11)]; exact c11, by rw [hV.cell (World.block_lt_of_cell? W _ c12)]; exact c12, by rw [hV.cell (World.block_lt_of_cell? W _ c13)]; exact c13, by rw [hV.cell (World.block_lt_of_cell? W _ c14)]; exact c14, by rw [hV.cell (World.block_lt_of_cell? W _ c15)]; exact c15⟩
        have Keep := Lib.hid hKeep
        have HTL := Lib.hid (tail_i64s HP.out 1 (by omega))
        clear hKeep hz p0 p1 p2 p3 p4 p5 c10 c11 c12 c13 c14 c15
        go_region_held3 (fun V => V.cell? ⟨b, off, none⟩ = some (.int .i64 q) ∧ V.cell? ⟨w.heap.size, 3, none⟩ = some (.slice (some ⟨b1, o1, none⟩) m vc) ∧ V.cell? ⟨b1, o1 + q * 6, none⟩ = some (.int .i64 z1.k) ∧ V.cell? ⟨b1, o1 + q * 6 + 3, none⟩ = some (.slice aa1 am1 ac1) ∧ V.cell? ⟨b1, o1 + q * 6 + 1, none⟩ = some (.int .i64 z1.n) ∧ V.cell? ⟨b1, o1 + q * 6 + 2, none⟩ = some (.string z1.s) ∧ V.cell? ⟨b1, o1 + q * 6 + 4, none⟩ = some (.int .i64 z1.f) ∧ V.cell? ⟨b1, o1 + q * 6 + 5, none⟩ = some (.int .i64 z1.t))
          (first | exact Keep.out _ (Below.refl _ _) | exact Keep.out _ (Below.drew (Below.refl _ _)) | exact Keep.out _ hS2)
          (first
            | (go_at_call 24; refine (HIH.out ⟨z1, aa1, am1, ac1, al1⟩ _ _ _ _ (HR1.out.below (Below.drew (Below.refl _ _))) (HTL.out.below (Below.drew (Below.refl _ _)))).mono ?_; rintro e w2 ⟨r, rfl, hr, hb⟩; have hS2 : Below W.heap.size W w2 := (Below.drew (Below.refl _ _)).trans hb; have HRR := Lib.hid hr; clear hr hb))
        have HB := Lib.hid (HW.out.trans (hS2.mono HW.out.size))
        go_wp2
        go_ret
        refine ⟨r, rfl, ?_, HB.out⟩
        rw [HRR.out, Tr.at_kid (y := x1) (by exact HX1.out), ← HV1.out]
      · have d0 : decide ((0 : Int) ≤ z) = true := by rw [decide_eq_true_iff]; omega
        have d1 : decide (z < (m : Int)) = false := by rw [decide_eq_false_iff_not]; omega
        go_wp2_with fail
        generalize hWW : (w.alloc (.cells #[.int .i64 x.k, .int .i64 x.n, .string x.s, .slice va m vc, .int .i64 x.f, .int .i64 x.t] 24)) = W at HW HX HV HP hz ⊢
        have p0 := HX.out.cell 0; have p1 := HX.out.cell 3; have p2 := HX.out.cell 1; have p3 := HX.out.cell 2; have p4 := HX.out.cell 4; have p5 := HX.out.cell 5
        simp at p0 p1 p2 p3 p4 p5
        go_quiet (fail)
        go_wp2
        go_ret
        refine ⟨false, rfl, ?_, below_drewN HW.out _⟩
        rw [Tr.at_cons, if_neg]
        · simp
        · have := HLX.out
          show ¬ (0 ≤ z ∧ z < ((l.length : Nat) : Int))
          omega

end Go.Proofs.Ytbpjaidfpacbfaa.te
