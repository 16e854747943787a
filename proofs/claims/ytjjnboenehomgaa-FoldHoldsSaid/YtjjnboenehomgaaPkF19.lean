import Derived.Deep.RegionHeld3
import Derived.Test.YtjjnboenehomgaaPkF18
section
namespace Go.Proofs.Ytjjnboenehomgaa.fo
open Go.ChangeShapes Go.WideShapes Go.ChangeAt Go.RowKit
open bs tr te
set_option linter.unusedVariables false
noncomputable def fv2 (k n : Int) (l : List VT) : Option (Int × Int) := match l with
  | [a] => if k = 11 then one n a.lab.k a.lab.n else none
  | [a, b] => if k = 10 ∧ a.lab.k = b.lab.k then two n a.lab.k a.lab.n b.lab.n else none
  | _ => none
open Classical in
noncomputable def fv (k n : Int) (s : ByteArray) (l : List VT) : Option (Int × Int) := if s = ⟨#[]⟩ ∧ ∀ p ∈ l, Lit p then fv2 k n l else none
def tc (v : te.Vn) : Array Value := #[.int .i64 v.x.k, .int .i64 v.x.n, .string v.x.s, .slice v.a v.m v.c, .int .i64 v.x.f, .int .i64 v.x.t]
theorem tc_size (v : te.Vn) : (tc v).size = 6 := rfl
theorem store_eqT {w : World} {g : Nat} {u : te.Vn} (hr : VB w g u) (v : te.Vn) : (storeCells ⟨g, 0, none⟩ (tc v).toList).run Try.prog w = .ok () (w.setRow g (tc v)) := by
  have h := run_storeCells_from (P := Try.prog) g 24 (tc v).toList 0 _ w hr rfl (fun x hx => (Array.all_eq_true_iff_forall_mem.1 (val_one v)) x (by simpa [tc] using hx))
  rw [h]
  congr 2
theorem below_row {B : Nat} {w W : World} (h : Below B w W) {g : Nat} (hg : B ≤ g) (cs : Array Value) : Below B w (W.setRow g cs) := h.trans ((only_setRow W g cs).below hg)
theorem kid {w W : World} {v : te.Vn} (h : v.Rd w) (hb : Below w.heap.size w W) {k : Nat} {u : VT} (hk : v.l[k]? = some u) : ∃ (b o : Nat) (y : te.Vn), v.a = some ⟨b, o, none⟩ ∧ b < w.heap.size ∧ k < v.m ∧ y.tr = u ∧ y.Rd w ∧ W.cell? ⟨b, o + k * 6, none⟩ = some (.int .i64 y.x.k) ∧ W.cell? ⟨b, o + k * 6 + 3, none⟩ = some (.slice y.a y.m y.c) ∧ W.cell? ⟨b, o + k * 6 + 1, none⟩ = some (.int .i64 y.x.n) ∧ W.cell? ⟨b, o + k * 6 + 2, none⟩ = some (.string y.x.s) ∧ W.cell? ⟨b, o + k * 6 + 4, none⟩ = some (.int .i64 y.x.f) ∧ W.cell? ⟨b, o + k * 6 + 5, none⟩ = some (.int .i64 y.x.t) := by
  have hkl := (List.getElem?_eq_some_iff.1 hk).1
  have hlm := h.1.len
  obtain ⟨b, o, x, ha, hb', hx, hc⟩ := recs_at h.1 (k := k) (by omega)
  obtain ⟨y, hy, hr, c0, c3, c1, c2, c4, c5⟩ := te.VA.out hc
  rw [hk] at hx
  cases hx
  have e : ∀ j : Nat, W.cell? ⟨b, j, none⟩ = w.cell? ⟨b, j, none⟩ := fun j => hb.cell (p := ⟨b, j, none⟩) hb'
  exact ⟨b, o, y, ha, hb', by omega, hy, hr, by rw [e]; exact c0, by rw [e]; exact c3, by rw [e]; exact c1, by rw [e]; exact c2, by rw [e]; exact c4, by rw [e]; exact c5⟩
set_option maxRecDepth 100000 in
set_option maxHeartbeats 4000000 in
theorem pvalue_any (a : te.Vn) (w : World) (ha : a.Rd w) : Calls Try.prog 24 #[a.val] w (VP (fv a.x.k a.x.n a.x.s a.l) w) := by
  obtain ⟨⟨xk, xn, xs, xf, xt⟩, va, vm, vc, vl⟩ := a
  have hW : Below w.heap.size w ((w.alloc (.cells #[.int .i64 xk, .int .i64 xn, .string xs, .slice va vm vc, .int .i64 xf, .int .i64 xt] 24)).alloc (.cells #[.int .i64 0, .int .i64 0, .string ⟨#[]⟩, .slice none 0 0, .int .i64 0, .int .i64 0] 24)) := ((Below.refl _ _).alloc (Nat.le_refl _) _).alloc (by simp only [te.size_alloc]; omega) _
  have hX : VB ((w.alloc (.cells #[.int .i64 xk, .int .i64 xn, .string xs, .slice va vm vc, .int .i64 xf, .int .i64 xt] 24)).alloc (.cells #[.int .i64 0, .int .i64 0, .string ⟨#[]⟩, .slice none 0 0, .int .i64 0, .int .i64 0] 24)) w.heap.size ⟨⟨xk, xn, xs, xf, xt⟩, va, vm, vc, vl⟩ := (vb_new w ⟨⟨xk, xn, xs, xf, xt⟩, va, vm, vc, vl⟩).below (below_alloc _ _)
  have hY : VB ((w.alloc (.cells #[.int .i64 xk, .int .i64 xn, .string xs, .slice va vm vc, .int .i64 xf, .int .i64 xt] 24)).alloc (.cells #[.int .i64 0, .int .i64 0, .string ⟨#[]⟩, .slice none 0 0, .int .i64 0, .int .i64 0] 24)) (w.heap.size + 1) te.v0 := by
    have := vb_new0 (w.alloc (.cells #[.int .i64 xk, .int .i64 xn, .string xs, .slice va vm vc, .int .i64 xf, .int .i64 xt] 24))
    rwa [te.size_alloc] at this
  have HAR := Lib.hid ha
  have hlen : vl.length = vm := ha.1.len
  have HLN := Lib.hid hlen
  have hcap : vm ≤ vc := ha.1.cap
  have hmost : vc ≤ 9223372036854775807 := ha.1.most
  have HW := Lib.hid hW; have HX := Lib.hid hX; have HY := Lib.hid hY
  obtain ⟨o, ho2⟩ : ∃ o, fv xk xn xs vl = o := ⟨_, rfl⟩
  have HO := Lib.hid ho2
  dsimp only
  rw [ho2]
  clear hW hX hY ha ho2 hlen
  unfold te.Vn.val
  go_enter Try.func24, Try.ntmps24
  go_upto_region 1 with fail
  generalize hWW : ((w.alloc (.cells #[.int .i64 xk, .int .i64 xn, .string xs, .slice va vm vc, .int .i64 xf, .int .i64 xt] 24)).alloc (.cells #[.int .i64 0, .int .i64 0, .string ⟨#[]⟩, .slice none 0 0, .int .i64 0, .int .i64 0] 24)) = W at HW HX HY ⊢
  clear hWW
  have p0 := HX.out.cell 0; have p1 := HX.out.cell 1; have p2 := HX.out.cell 2; have p3 := HX.out.cell 3
  simp at p0 p1 p2 p3
  by_cases hs : xs = ⟨#[]⟩
  · subst hs
    go_wp2_with fail
    go_loopw [13] (fun i wr => ∃ (k : Nat), k ≤ vm ∧ i = .int .i64 k ∧ Hid (Below W.heap.size W wr) ∧ Hid (∀ (i : Nat) p, i < k → vl[i]? = some p → Lit p)) (fun i _ => vm - (intOf i).toNat)
    case atStart => exact ⟨0, by omega, rfl, Lib.hid (Below.refl _ _), Lib.hid (fun i p h => absurd h (Nat.not_lt_zero i))⟩
    case round =>
      obtain ⟨k, hk, rfl, HBr, HT⟩ := hrel
      clear p0 p1 p2 p3
      have HBW := Lib.hid (HW.out.trans (HBr.out.mono HW.out.size))
      by_cases hkn : k < vm
      · obtain ⟨u, hu⟩ : ∃ u, vl[k]? = some u := ⟨_, List.getElem?_eq_getElem (by have := HLN.out; omega)⟩
        obtain ⟨b4, o4, y, hav, hbv, hkv, hyt, hyr, d0, d3, d1, d2, d4, d5⟩ := kid HAR.out HBW.out hu
        dsimp only at hav
        subst hav
        have e0 : decide ((k : Int) < (vm : Int)) = true := decide_eq_true (by omega)
        have e1 : decide (k < vm) = true := decide_eq_true (by omega)
        have e2 : (k : Int) < (vm : Int) := by omega
        have HYT := Lib.hid hyt; have HYR := Lib.hid hyr; have HU := Lib.hid hu
        clear hyt hyr hu
        go_upto_region 6 with fail
        have HB6 := Lib.hid (HBr.out.trans ((below_alloc wr (.cells #[.int .i64 y.x.k, .int .i64 y.x.n, .string y.x.s, .slice y.a y.m y.c, .int .i64 y.x.f, .int .i64 y.x.t] 24)).mono HBr.out.size)); have HY6 : Hid (VB (wr.alloc (.cells #[.int .i64 y.x.k, .int .i64 y.x.n, .string y.x.s, .slice y.a y.m y.c, .int .i64 y.x.f, .int .i64 y.x.t] 24)) wr.heap.size y) := Lib.hid (vb_new wr y)
        generalize hWW : wr.alloc (.cells #[.int .i64 y.x.k, .int .i64 y.x.n, .string y.x.s, .slice y.a y.m y.c, .int .i64 y.x.f, .int .i64 y.x.t] 24) = w6 at HB6 HY6 ⊢
        clear hWW d0 d1 d2 d3 d4 d5
        have HBX := Lib.hid (HW.out.trans (HB6.out.mono HW.out.size))
        go_wp2_with (refine wpList_load_T rfl _ rfl rfl HY6.out ?_)
        refine (lit_any y w6 (HYR.out.below HBX.out)).mono ?_
        rintro e w7 ⟨r, rfl, HR, hb7⟩
        have HB7 := Lib.hid (HB6.out.trans (hb7.mono HB6.out.size)); have HBZ := Lib.hid (HBX.out.trans (hb7.mono HBX.out.size))
        clear hb7
        cases r with
        | false =>
          have hno : ¬ Lit u := fun h => by rw [← HYT.out] at h; exact Bool.noConfusion (HR.out.2 h)
          have ho : o = none := by
            rw [← HO.out]
            unfold fv
            rw [if_neg (fun h => hno (h.2 u (List.mem_of_getElem? HU.out)))]
          subst ho
          have HY7 := Lib.hid (HY.out.below HB7.out)
          clear hno
          go_wp2_with (refine wpList_store_T rfl _ _ rfl rfl HY7.out te.v0 rfl ?_)
          intro w9 hv9 ho9
          go_wp2
          try simp only [Exit.inBlock, Exit.then]
          refine bodyPost_ret (te.results_cell_tmp rfl _ _ (w.heap.size + 1) _ _ _ rfl hv9 Try.underlying24 rfl (by kernel_rfl)) rfl ?_
          exact ⟨rfl, HBZ.out.trans (ho9.below (by omega))⟩
        | true =>
          have hyes : Lit u := by rw [← HYT.out]; exact HR.out.1 rfl
          have hT2 : ∀ (i : Nat) p, i < k + 1 → vl[i]? = some p → Lit p := fun i p hi hp => by
            rcases Nat.lt_or_ge i k with h | h
            · exact HT.out i p h hp
            · have : i = k := by omega
              subst this
              rw [HU.out] at hp; cases hp
              exact hyes
          have HT2 := Lib.hid hT2
          clear hyes hT2
          go_wp2
          go_roundw
          case rel => exact ⟨k + 1, by omega, by go_num, HB7, HT2⟩
          case measure => simp [intOf]; omega
      · have hke : k = vm := by omega
        subst hke
        have hall : ∀ p ∈ vl, Lit p := fun p hp => by
          obtain ⟨i, hi, he⟩ := List.getElem_of_mem hp
          exact HT.out i p (by have := HLN.out; omega) (by rw [← he]; exact List.getElem?_eq_getElem hi)
        have ho : fv2 xk xn vl = o := by rw [← HO.out]; unfold fv; rw [if_pos ⟨rfl, hall⟩]
        have HO2 := Lib.hid ho
        clear hall ho HO HT
        have HXr := Lib.hid (HX.out.below HBr.out); have HYr := Lib.hid (HY.out.below HBr.out)
        clear HX HY
        have p0 := HXr.out.cell 0; have p1 := HXr.out.cell 1; have p3 := HXr.out.cell 3
        simp at p0 p1 p3
        go_upto_region 9 with fail
        by_cases k10 : xk = 10
        · have c10 : (xk == 10) = true := by rw [beq_iff_eq]; exact k10
          have c11 : (xk == 11) = false := by rw [beq_eq_false_iff_ne]; omega
          by_cases m2 : k = 2
          · subst m2
            obtain ⟨u1, u2, hl⟩ : ∃ u1 u2, vl = [u1, u2] := by
              have := HLN.out
              match vl, this with
              | [x, y], _ => exact ⟨x, y, rfl⟩
              | [], h => simp at h
              | [x], h => simp at h
              | x :: y :: z :: r, h => simp at h
            subst hl
            obtain ⟨b4, o4, y1, hav, hbv, hkv, hyt, hyr, d0, d3, d1, d2, d4, d5⟩ := kid HAR.out HBW.out (k := 0) (u := u1) rfl
            obtain ⟨b5, o5, y2, hav2, hbv2, hkv2, hyt2, hyr2, f0, f3, f1, f2, f4, f5⟩ := kid HAR.out HBW.out (k := 1) (u := u2) rfl
            dsimp only at hav hav2
            subst hav
            cases hav2
            simp only [Nat.zero_mul, Nat.add_zero, Nat.one_mul] at d0 d1 d2 d3 d4 d5 f0 f1 f2 f3 f4 f5
            have HYT := Lib.hid hyt; have HYR := Lib.hid hyr; have HYT2 := Lib.hid hyt2; have HYR2 := Lib.hid hyr2
            have HK10 := Lib.hid k10
            clear hyt hyr hyt2 hyr2 k10
            by_cases kk : y1.x.k = y2.x.k
            · have ck : (y1.x.k == y2.x.k) = true := by rw [beq_iff_eq]; exact kk
              have ho : two xn y1.x.k y1.x.n y2.x.n = o := by
                rw [← HO2.out, ← HYT.out, ← HYT2.out, HK10.out]
                exact (if_pos ⟨rfl, kk⟩).symm
              have HO3 := Lib.hid ho
              clear ho kk
              obtain ⟨r, hr⟩ : ∃ r, lv o = r := ⟨_, rfl⟩
              obtain ⟨ob, hob⟩ : ∃ ob, o.isSome = ob := ⟨_, rfl⟩
              have HRB := Lib.hid hr; have HOB := Lib.hid hob
              have hw1 : w.heap.size + 1 < wr.heap.size := HYr.out.lt
              have hkq : ∀ V, Below (w.heap.size + 1) wr V → V.cell? ⟨w.heap.size, 1, none⟩ = some (.int .i64 xn) ∧ V.cell? ⟨w.heap.size, 3, none⟩ = some (.slice (some ⟨b4, o4, none⟩) 2 vc) ∧ V.cell? ⟨b4, o4, none⟩ = some (.int .i64 y1.x.k) ∧ V.cell? ⟨b4, o4 + 3, none⟩ = some (.slice y1.a y1.m y1.c) ∧ V.cell? ⟨b4, o4 + 1, none⟩ = some (.int .i64 y1.x.n) ∧ V.cell? ⟨b4, o4 + 2, none⟩ = some (.string y1.x.s) ∧ V.cell? ⟨b4, o4 + 4, none⟩ = some (.int .i64 y1.x.f) ∧ V.cell? ⟨b4, o4 + 5, none⟩ = some (.int .i64 y1.x.t) ∧ V.cell? ⟨b4, o4 + 6, none⟩ = some (.int .i64 y2.x.k) ∧ V.cell? ⟨b4, o4 + 6 + 3, none⟩ = some (.slice y2.a y2.m y2.c) ∧ V.cell? ⟨b4, o4 + 6 + 1, none⟩ = some (.int .i64 y2.x.n) ∧ V.cell? ⟨b4, o4 + 6 + 2, none⟩ = some (.string y2.x.s) ∧ V.cell? ⟨b4, o4 + 6 + 4, none⟩ = some (.int .i64 y2.x.f) ∧ V.cell? ⟨b4, o4 + 6 + 5, none⟩ = some (.int .i64 y2.x.t) := fun V hV => by
                have hx : ∀ j : Nat, V.cell? ⟨w.heap.size, j, none⟩ = wr.cell? ⟨w.heap.size, j, none⟩ := fun j => hV.cell (p := ⟨w.heap.size, j, none⟩) (Nat.lt_succ_self _)
                have hd : ∀ j : Nat, V.cell? ⟨b4, j, none⟩ = wr.cell? ⟨b4, j, none⟩ := fun j => hV.cell (p := ⟨b4, j, none⟩) (by show b4 < _; omega)
                exact ⟨by rw [hx]; exact p1, by rw [hx]; exact p3, by rw [hd]; exact d0, by rw [hd]; exact d3, by rw [hd]; exact d1, by rw [hd]; exact d2, by rw [hd]; exact d4, by rw [hd]; exact d5, by rw [hd]; exact f0, by rw [hd]; exact f3, by rw [hd]; exact f1, by rw [hd]; exact f2, by rw [hd]; exact f4, by rw [hd]; exact f5⟩
              have KQ := Lib.hid hkq
              have HC := Lib.hid (fun (V : World) (hV : Below wr.heap.size wr V) => show Calls Try.prog 46 #[.int .i64 xn, (.agg #[.int .i64 y1.x.k, .int .i64 y1.x.n, .string y1.x.s, .slice y1.a y1.m y1.c, .int .i64 y1.x.f, .int .i64 y1.x.t]), (.agg #[.int .i64 y2.x.k, .int .i64 y2.x.n, .string y2.x.s, .slice y2.a y2.m y2.c, .int .i64 y2.x.f, .int .i64 y2.x.t])] V (fun e w' => e = .returned (.tuple #[.agg (tc r), .bool ob]) ∧ Below V.heap.size V w') from by
                have h := two_any xn y1 y2 V ((HYR.out.below HBW.out).below hV) ((HYR2.out.below HBW.out).below hV)
                rw [HO3.out] at h
                rw [← HRB.out, ← HOB.out]
                exact h)
              clear hkq hr hob HO2 HO3
              go_quiet (fail)
              go_upto_region 10 with fail
              have K1 : Hid (Below wr.heap.size wr (wr.drewN nq).drew) := Lib.hid (Below.drew (below_drewN (Below.refl _ _) nq))
              have hw1' : w.heap.size + 1 ≤ wr.heap.size := Nat.le_of_lt hw1
              clear d0 d1 d2 d3 d4 d5 f0 f1 f2 f3 f4 f5 p0 p1 p3
              generalize (wr.drewN nq) = wq at K1 ⊢
              go_region_held3 (fun V => V.cell? ⟨w.heap.size, 1, none⟩ = some (.int .i64 xn) ∧ V.cell? ⟨w.heap.size, 3, none⟩ = some (.slice (some ⟨b4, o4, none⟩) 2 vc) ∧ V.cell? ⟨b4, o4, none⟩ = some (.int .i64 y1.x.k) ∧ V.cell? ⟨b4, o4 + 3, none⟩ = some (.slice y1.a y1.m y1.c) ∧ V.cell? ⟨b4, o4 + 1, none⟩ = some (.int .i64 y1.x.n) ∧ V.cell? ⟨b4, o4 + 2, none⟩ = some (.string y1.x.s) ∧ V.cell? ⟨b4, o4 + 4, none⟩ = some (.int .i64 y1.x.f) ∧ V.cell? ⟨b4, o4 + 5, none⟩ = some (.int .i64 y1.x.t) ∧ V.cell? ⟨b4, o4 + 6, none⟩ = some (.int .i64 y2.x.k) ∧ V.cell? ⟨b4, o4 + 6 + 3, none⟩ = some (.slice y2.a y2.m y2.c) ∧ V.cell? ⟨b4, o4 + 6 + 1, none⟩ = some (.int .i64 y2.x.n) ∧ V.cell? ⟨b4, o4 + 6 + 2, none⟩ = some (.string y2.x.s) ∧ V.cell? ⟨b4, o4 + 6 + 4, none⟩ = some (.int .i64 y2.x.f) ∧ V.cell? ⟨b4, o4 + 6 + 5, none⟩ = some (.int .i64 y2.x.t))
                (with_reducible (refine KQ.out _ ?_; repeat (first | exact Below.mono K1.out hw1' | exact Below.mono KC.out hw1' | exact below_row (Below.mono KC.out hw1') (Nat.le_refl _) _)))
                (first
                  | (go_at_call 46; (with_reducible refine (HC.out _ K1.out).mono ?_); rintro e w3 ⟨rfl, hb3⟩; have KC : Hid (Below wr.heap.size wr w3) := Lib.hid (K1.out.trans (hb3.mono K1.out.size)); have HY3 := Lib.hid (HYr.out.below KC.out); have hst := store_eqT HY3.out r; have hz6 := tc_size r; clear hb3))
              have hv9 : VB (w3.setRow (w.heap.size + 1) (tc r)) (w.heap.size + 1) r := blk_setRow HY3.out
              have hb9 : Below w.heap.size w (w3.setRow (w.heap.size + 1) (tc r)) := below_row (HBW.out.trans (KC.out.mono HBW.out.size)) (by omega) _
              have HV9 := Lib.hid hv9; have HB9 := Lib.hid hb9
              generalize (w3.setRow (w.heap.size + 1) (tc r)) = w9 at HV9 HB9 ⊢
              clear hv9 hb9 hst hz6
              go_wp2
              try simp only [Exit.inBlock, Exit.then]
              refine bodyPost_ret (te.results_cell_tmp rfl _ _ (w.heap.size + 1) _ _ _ rfl HV9.out Try.underlying24 rfl (by kernel_rfl)) rfl ?_
              refine ⟨?_, HB9.out⟩
              rw [HRB.out, HOB.out]
              rfl
            · have ck : (y1.x.k == y2.x.k) = false := by rw [beq_eq_false_iff_ne]; exact kk
              have ho : o = none := by rw [← HO2.out, ← HYT.out, ← HYT2.out]; exact if_neg (fun h => kk h.2)
              subst ho
              clear HO2 kk
              go_quiet (fail)
              have HYq := Lib.hid (HYr.out.drewN nq); have HBq : Hid (Below w.heap.size w (wr.drewN nq)) := Lib.hid (below_drewN HBW.out nq)
              go_wp2_with (refine wpList_store_T rfl _ _ rfl rfl HYq.out te.v0 rfl ?_)
              intro w9 hv9 ho9
              go_wp2
              try simp only [Exit.inBlock, Exit.then]
              refine bodyPost_ret (te.results_cell_tmp rfl _ _ (w.heap.size + 1) _ _ _ rfl hv9 Try.underlying24 rfl (by kernel_rfl)) rfl ?_
              exact ⟨rfl, HBq.out.trans (ho9.below (by omega))⟩
          · have cm : ((k : Int) == 2) = false := by rw [beq_eq_false_iff_ne]; omega
            have ho : o = none := by 
                          rw [← HO2.out, k10]
                          have := HLN.out
                          match vl, this with
                          | [x, y], h => simp at h; omega
                          | [], h => rfl
                          | [x], h => rfl
                          | x :: y :: z :: r, h => rfl
            subst ho
            clear HO2 k10 m2
            go_quiet (fail)
            have HYq := Lib.hid (HYr.out.drewN nq); have HBq : Hid (Below w.heap.size w (wr.drewN nq)) := Lib.hid (below_drewN HBW.out nq)
            go_wp2_with (refine wpList_store_T rfl _ _ rfl rfl HYq.out te.v0 rfl ?_)
            intro w9 hv9 ho9
            go_wp2
            try simp only [Exit.inBlock, Exit.then]
            refine bodyPost_ret (te.results_cell_tmp rfl _ _ (w.heap.size + 1) _ _ _ rfl hv9 Try.underlying24 rfl (by kernel_rfl)) rfl ?_
            exact ⟨rfl, HBq.out.trans (ho9.below (by omega))⟩
        · have c10 : (xk == 10) = false := by rw [beq_eq_false_iff_ne]; exact k10
          by_cases k11 : xk = 11
          · have c11 : (xk == 11) = true := by rw [beq_iff_eq]; exact k11
            by_cases m1 : k = 1
            · skip
              subst m1
              obtain ⟨u1, hl⟩ : ∃ u1, vl = [u1] := List.length_eq_one_iff.1 HLN.out
              subst hl
              obtain ⟨b4, o4, y1, hav, hbv, hkv, hyt, hyr, d0, d3, d1, d2, d4, d5⟩ := kid HAR.out HBW.out (k := 0) (u := u1) rfl
              dsimp only at hav
              subst hav
              simp only [Nat.zero_mul, Nat.add_zero] at d0 d1 d2 d3 d4 d5
              have HYT := Lib.hid hyt; have HYR := Lib.hid hyr
              have HX64 : Hid (I6 xn) := Lib.hid HAR.out.2.n
              have ho : one xn y1.x.k y1.x.n = o := by
                rw [← HO2.out, ← HYT.out, k11]
                show _ = (if (11 : Int) = 11 then one xn y1.tr.lab.k y1.tr.lab.n else none)
                rw [if_pos rfl]
                rfl
              have HO3 := Lib.hid ho
              clear hyt hyr ho k10 k11
              obtain ⟨r, hr⟩ : ∃ r, lv o = r := ⟨_, rfl⟩
              obtain ⟨ob, hob⟩ : ∃ ob, o.isSome = ob := ⟨_, rfl⟩
              have HRB := Lib.hid hr; have HOB := Lib.hid hob
              have hw1 : w.heap.size + 1 < wr.heap.size := HYr.out.lt
              have hkq : ∀ V, Below (w.heap.size + 1) wr V → V.cell? ⟨w.heap.size, 1, none⟩ = some (.int .i64 xn) ∧ V.cell? ⟨w.heap.size, 3, none⟩ = some (.slice (some ⟨b4, o4, none⟩) 1 vc) ∧ V.cell? ⟨b4, o4, none⟩ = some (.int .i64 y1.x.k) ∧ V.cell? ⟨b4, o4 + 3, none⟩ = some (.slice y1.a y1.m y1.c) ∧ V.cell? ⟨b4, o4 + 1, none⟩ = some (.int .i64 y1.x.n) ∧ V.cell? ⟨b4, o4 + 2, none⟩ = some (.string y1.x.s) ∧ V.cell? ⟨b4, o4 + 4, none⟩ = some (.int .i64 y1.x.f) ∧ V.cell? ⟨b4, o4 + 5, none⟩ = some (.int .i64 y1.x.t) := fun V hV => by
                have hx : ∀ j : Nat, V.cell? ⟨w.heap.size, j, none⟩ = wr.cell? ⟨w.heap.size, j, none⟩ := fun j => hV.cell (p := ⟨w.heap.size, j, none⟩) (Nat.lt_succ_self _)
                have hd : ∀ j : Nat, V.cell? ⟨b4, j, none⟩ = wr.cell? ⟨b4, j, none⟩ := fun j => hV.cell (p := ⟨b4, j, none⟩) (by show b4 < _; omega)
                exact ⟨by rw [hx]; exact p1, by rw [hx]; exact p3, by rw [hd]; exact d0, by rw [hd]; exact d3, by rw [hd]; exact d1, by rw [hd]; exact d2, by rw [hd]; exact d4, by rw [hd]; exact d5⟩
              have KQ := Lib.hid hkq
              have HC := Lib.hid (fun (V : World) (hV : Below wr.heap.size wr V) => show Calls Try.prog 47 #[.int .i64 xn, (.agg #[.int .i64 y1.x.k, .int .i64 y1.x.n, .string y1.x.s, .slice y1.a y1.m y1.c, .int .i64 y1.x.f, .int .i64 y1.x.t])] V (fun e w' => e = .returned (.tuple #[.agg (tc r), .bool ob]) ∧ Below V.heap.size V w') from by
                have h := one_any xn y1 V ((HYR.out.below HBW.out).below hV) HX64.out
                rw [HO3.out] at h
                rw [← HRB.out, ← HOB.out]
                exact h)
              clear hkq hr hob HO2 HO3
              go_quiet (fail)
              go_upto_region 12 with fail
              have K1 : Hid (Below wr.heap.size wr (wr.drewN nq).drew) := Lib.hid (Below.drew (below_drewN (Below.refl _ _) nq))
              have hw1' : w.heap.size + 1 ≤ wr.heap.size := Nat.le_of_lt hw1
              clear d0 d1 d2 d3 d4 d5 p0 p1 p3
              generalize (wr.drewN nq) = wq at K1 ⊢
              go_region_held3 (fun V => V.cell? ⟨w.heap.size, 1, none⟩ = some (.int .i64 xn) ∧ V.cell? ⟨w.heap.size, 3, none⟩ = some (.slice (some ⟨b4, o4, none⟩) 1 vc) ∧ V.cell? ⟨b4, o4, none⟩ = some (.int .i64 y1.x.k) ∧ V.cell? ⟨b4, o4 + 3, none⟩ = some (.slice y1.a y1.m y1.c) ∧ V.cell? ⟨b4, o4 + 1, none⟩ = some (.int .i64 y1.x.n) ∧ V.cell? ⟨b4, o4 + 2, none⟩ = some (.string y1.x.s) ∧ V.cell? ⟨b4, o4 + 4, none⟩ = some (.int .i64 y1.x.f) ∧ V.cell? ⟨b4, o4 + 5, none⟩ = some (.int .i64 y1.x.t))
                (with_reducible (refine KQ.out _ ?_; repeat (first | exact Below.mono K1.out hw1' | exact Below.mono KC.out hw1' | exact below_row (Below.mono KC.out hw1') (Nat.le_refl _) _)))
                (first
                  | (go_at_call 47; (with_reducible refine (HC.out _ K1.out).mono ?_); rintro e w3 ⟨rfl, hb3⟩; have KC : Hid (Below wr.heap.size wr w3) := Lib.hid (K1.out.trans (hb3.mono K1.out.size)); have HY3 := Lib.hid (HYr.out.below KC.out); have hst := store_eqT HY3.out r; have hz6 := tc_size r; clear hb3))
              have hv9 : VB (w3.setRow (w.heap.size + 1) (tc r)) (w.heap.size + 1) r := blk_setRow HY3.out
              have hb9 : Below w.heap.size w (w3.setRow (w.heap.size + 1) (tc r)) := below_row (HBW.out.trans (KC.out.mono HBW.out.size)) (by omega) _
              have HV9 := Lib.hid hv9; have HB9 := Lib.hid hb9
              generalize (w3.setRow (w.heap.size + 1) (tc r)) = w9 at HV9 HB9 ⊢
              clear hv9 hb9 hst hz6
              go_wp2
              try simp only [Exit.inBlock, Exit.then]
              refine bodyPost_ret (te.results_cell_tmp rfl _ _ (w.heap.size + 1) _ _ _ rfl HV9.out Try.underlying24 rfl (by kernel_rfl)) rfl ?_
              refine ⟨?_, HB9.out⟩
              rw [HRB.out, HOB.out]
              rfl
            · have cm : ((k : Int) == 1) = false := by rw [beq_eq_false_iff_ne]; omega
              have ho : o = none := by 
                              rw [← HO2.out, k11]
                              have := HLN.out
                              match vl, this with
                              | [x, y], h => rfl
                              | [], h => rfl
                              | [x], h => simp at h; omega
                              | x :: y :: z :: r, h => rfl
              subst ho
              clear HO2 k10 k11 m1
              go_quiet (fail)
              have HYq := Lib.hid (HYr.out.drewN nq); have HBq : Hid (Below w.heap.size w (wr.drewN nq)) := Lib.hid (below_drewN HBW.out nq)
              go_wp2_with (refine wpList_store_T rfl _ _ rfl rfl HYq.out te.v0 rfl ?_)
              intro w9 hv9 ho9
              go_wp2
              try simp only [Exit.inBlock, Exit.then]
              refine bodyPost_ret (te.results_cell_tmp rfl _ _ (w.heap.size + 1) _ _ _ rfl hv9 Try.underlying24 rfl (by kernel_rfl)) rfl ?_
              exact ⟨rfl, HBq.out.trans (ho9.below (by omega))⟩
          · have c11 : (xk == 11) = false := by rw [beq_eq_false_iff_ne]; exact k11
            have ho : o = none := by 
                          rw [← HO2.out]
                          match vl with
                          | [x, y] => exact if_neg (fun h => k10 h.1)
                          | [] => rfl
                          | [x] => exact if_neg k11
                          | x :: y :: z :: r => rfl
            subst ho
            clear HO2 k10 k11
            go_quiet (fail)
            have HYq := Lib.hid (HYr.out.drewN nq); have HBq : Hid (Below w.heap.size w (wr.drewN nq)) := Lib.hid (below_drewN HBW.out nq)
            go_wp2_with (refine wpList_store_T rfl _ _ rfl rfl HYq.out te.v0 rfl ?_)
            intro w9 hv9 ho9
            go_wp2
            try simp only [Exit.inBlock, Exit.then]
            refine bodyPost_ret (te.results_cell_tmp rfl _ _ (w.heap.size + 1) _ _ _ rfl hv9 Try.underlying24 rfl (by kernel_rfl)) rfl ?_
            exact ⟨rfl, HBq.out.trans (ho9.below (by omega))⟩
  · have s1 : ¬ xs.toList = [] := ne_empty hs
    have s2 : xs.toList.isEmpty = false := by rw [List.isEmpty_eq_false_iff]; exact s1
    have ho : o = none := by rw [← HO.out]; unfold fv; rw [if_neg (fun h => hs h.1)]
    subst ho
    clear hs HO
    go_wp2_with (refine wpList_store_T rfl _ _ rfl rfl HY.out te.v0 rfl ?_)
    intro w9 hv9 ho9
    go_wp2
    try simp only [Exit.inBlock, Exit.then]
    refine bodyPost_ret (te.results_cell_tmp rfl _ _ (w.heap.size + 1) _ _ _ rfl hv9 Try.underlying24 rfl (by kernel_rfl)) rfl ?_
    exact ⟨rfl, HW.out.trans (ho9.below (by omega))⟩
end Go.Proofs.Ytjjnboenehomgaa.fo
end
