import Derived.Test.YtjjnboenehomgaaPkF19
section
namespace Go.Proofs.Ytjjnboenehomgaa.fo
open Go.ChangeShapes Go.WideShapes Go.ChangeAt Go.RowKit
open bs tr te
set_option linter.unusedVariables false
set_option linter.unusedSimpArgs false
theorem fits_lit {p : VT} (h : Lit p) : p.lab.k = 5 ∨ p.lab.k = 6 := h.2.2.imp id (fun h => h.1)
theorem fv_kinds {k n : Int} {s : ByteArray} {l : List VT} {u0 u : VT} {i : Nat} (h0 : l[0]? = some u0) (hi : l[i]? = some u) (hk : u.lab.k ≠ u0.lab.k) : fv k n s l = none := by
  unfold fv
  split
  · match l, h0, hi with
    | [p], h0, hi =>
      cases h0
      match i, hi with
      | 0, hi => cases hi; exact absurd rfl hk
      | i + 1, hi => simp at hi
    | [p, q], h0, hi =>
      cases h0
      match i, hi with
      | 0, hi => cases hi; exact absurd rfl hk
      | 1, hi => cases hi; exact if_neg (fun h => hk h.2.symm)
      | i + 2, hi => simp at hi
    | p :: q :: r :: t, h0, hi => rfl
  · rfl
set_option maxRecDepth 100000 in
set_option maxHeartbeats 8000000 in
theorem rvalue_any (a : te.Vn) (w : World) (ha : a.Rd w) : Calls Try.prog 49 #[a.val] w (VP (fv a.x.k a.x.n a.x.s a.l) w) := by
  obtain ⟨⟨xk, xn, xs, xf, xt⟩, va, vm, vc, vl⟩ := a
  have hW : Below w.heap.size w (((w.alloc (.cells #[.int .i64 xk, .int .i64 xn, .string xs, .slice va vm vc, .int .i64 xf, .int .i64 xt] 24)).alloc (.cells #[.int .i64 0, .int .i64 0, .string ⟨#[]⟩, .slice none 0 0, .int .i64 0, .int .i64 0] 24)).alloc (.cells #[.int .i64 0, .int .i64 0, .string ⟨#[]⟩, .slice none 0 0, .int .i64 0, .int .i64 0] 24)) := (((Below.refl _ _).alloc (Nat.le_refl _) _).alloc (by simp only [te.size_alloc]; omega) _).alloc (by simp only [te.size_alloc]; omega) _
  have hX : VB (((w.alloc (.cells #[.int .i64 xk, .int .i64 xn, .string xs, .slice va vm vc, .int .i64 xf, .int .i64 xt] 24)).alloc (.cells #[.int .i64 0, .int .i64 0, .string ⟨#[]⟩, .slice none 0 0, .int .i64 0, .int .i64 0] 24)).alloc (.cells #[.int .i64 0, .int .i64 0, .string ⟨#[]⟩, .slice none 0 0, .int .i64 0, .int .i64 0] 24)) w.heap.size ⟨⟨xk, xn, xs, xf, xt⟩, va, vm, vc, vl⟩ := ((vb_new w ⟨⟨xk, xn, xs, xf, xt⟩, va, vm, vc, vl⟩).below (below_alloc _ _)).below (below_alloc _ _)
  have hY : VB (((w.alloc (.cells #[.int .i64 xk, .int .i64 xn, .string xs, .slice va vm vc, .int .i64 xf, .int .i64 xt] 24)).alloc (.cells #[.int .i64 0, .int .i64 0, .string ⟨#[]⟩, .slice none 0 0, .int .i64 0, .int .i64 0] 24)).alloc (.cells #[.int .i64 0, .int .i64 0, .string ⟨#[]⟩, .slice none 0 0, .int .i64 0, .int .i64 0] 24)) (w.heap.size + 1) te.v0 := by
    have := (vb_new0 (w.alloc (.cells #[.int .i64 xk, .int .i64 xn, .string xs, .slice va vm vc, .int .i64 xf, .int .i64 xt] 24))).below (below_alloc _ (.cells #[.int .i64 0, .int .i64 0, .string ⟨#[]⟩, .slice none 0 0, .int .i64 0, .int .i64 0] 24))
    rwa [te.size_alloc] at this
  have hN : VB (((w.alloc (.cells #[.int .i64 xk, .int .i64 xn, .string xs, .slice va vm vc, .int .i64 xf, .int .i64 xt] 24)).alloc (.cells #[.int .i64 0, .int .i64 0, .string ⟨#[]⟩, .slice none 0 0, .int .i64 0, .int .i64 0] 24)).alloc (.cells #[.int .i64 0, .int .i64 0, .string ⟨#[]⟩, .slice none 0 0, .int .i64 0, .int .i64 0] 24)) (w.heap.size + 1 + 1) te.v0 := by
    have := vb_new0 ((w.alloc (.cells #[.int .i64 xk, .int .i64 xn, .string xs, .slice va vm vc, .int .i64 xf, .int .i64 xt] 24)).alloc (.cells #[.int .i64 0, .int .i64 0, .string ⟨#[]⟩, .slice none 0 0, .int .i64 0, .int .i64 0] 24))
    rwa [te.size_alloc, te.size_alloc] at this
  have HAR := Lib.hid ha
  have hlen : vl.length = vm := ha.1.len
  have HLN := Lib.hid hlen
  have hcap : vm ≤ vc := ha.1.cap
  have hmost : vc ≤ 9223372036854775807 := ha.1.most
  have HX64 : Hid (I6 xn) := Lib.hid ha.2.n
  have HW := Lib.hid hW; have HX := Lib.hid hX; have HY := Lib.hid hY; have HN := Lib.hid hN
  obtain ⟨o, ho2⟩ : ∃ o, fv xk xn xs vl = o := ⟨_, rfl⟩
  have HO := Lib.hid ho2
  dsimp only
  rw [ho2]
  clear hW hX hY hN ha ho2 hlen
  unfold te.Vn.val
  go_enter Try.func49, Try.ntmps49
  go_upto_region 2 with fail
  generalize hWW : (((w.alloc (.cells #[.int .i64 xk, .int .i64 xn, .string xs, .slice va vm vc, .int .i64 xf, .int .i64 xt] 24)).alloc (.cells #[.int .i64 0, .int .i64 0, .string ⟨#[]⟩, .slice none 0 0, .int .i64 0, .int .i64 0] 24)).alloc (.cells #[.int .i64 0, .int .i64 0, .string ⟨#[]⟩, .slice none 0 0, .int .i64 0, .int .i64 0] 24)) = W at HW HX HY HN ⊢
  clear hWW
  have p0 := HX.out.cell 0; have p1 := HX.out.cell 1; have p2 := HX.out.cell 2; have p3 := HX.out.cell 3
  simp at p0 p1 p2 p3
  by_cases hs : xs = ⟨#[]⟩
  · subst hs
    by_cases hm0 : vm = 0
    · subst hm0
      have hl : vl = [] := List.eq_nil_of_length_eq_zero HLN.out
      have ho : o = none := by rw [← HO.out, hl]; unfold fv; split <;> rfl
      subst ho
      clear hl HO
      go_wp2_with (first | (refine wpList_load_T rfl _ rfl rfl HN.out ?_) | (refine wpList_store_T rfl _ _ rfl rfl HY.out te.v0 rfl ?_))
      intro w9 hv9 ho9
      go_wp2
      try simp only [Exit.inBlock, Exit.then]
      refine bodyPost_ret (te.results_cell_tmp rfl _ _ (w.heap.size + 1) _ _ _ rfl hv9 Try.underlying24 rfl (by kernel_rfl)) rfl ?_
      exact ⟨rfl, HW.out.trans (ho9.below (by omega))⟩
    · by_cases hm2 : 2 < vm
      · have ho : o = none := by
          rw [← HO.out]
          unfold fv
          split
          · have := HLN.out
            match vl, this with
            | [x, y], h => simp at h; omega
            | [], h => rfl
            | [x], h => simp at h; omega
            | x :: y :: z :: r, h => rfl
          · rfl
        subst ho
        have b0 : ((vm : Int) == 0) = false := by rw [beq_eq_false_iff_ne]; omega
        have b1 : decide ((2 : Int) < (vm : Int)) = true := decide_eq_true (by omega)
        have b2 : decide (2 < vm) = true := decide_eq_true (by omega)
        clear HO
        go_wp2_with (first | (refine wpList_load_T rfl _ rfl rfl HN.out ?_) | (refine wpList_store_T rfl _ _ rfl rfl HY.out te.v0 rfl ?_))
        intro w9 hv9 ho9
        go_wp2
        try simp only [Exit.inBlock, Exit.then]
        refine bodyPost_ret (te.results_cell_tmp rfl _ _ (w.heap.size + 1) _ _ _ rfl hv9 Try.underlying24 rfl (by kernel_rfl)) rfl ?_
        exact ⟨rfl, HW.out.trans (ho9.below (by omega))⟩
      · have b0 : ((vm : Int) == 0) = false := by rw [beq_eq_false_iff_ne]; omega
        have b1 : decide ((2 : Int) < (vm : Int)) = false := decide_eq_false (by omega)
        have b2 : decide (2 < vm) = false := decide_eq_false (by omega)
        have h0 : 0 < vm := by omega
        have HM0 := Lib.hid hm0; have HM2 := Lib.hid hm2
        obtain ⟨u0, hu0⟩ : ∃ u0, vl[0]? = some u0 := ⟨_, List.getElem?_eq_getElem (by have := HLN.out; omega)⟩
        obtain ⟨b4, o4, y0, hav, hbv, hkv, hyt0, hyr0, d0, _⟩ := kid HAR.out HW.out hu0
        dsimp only at hav
        subst hav
        simp only [Nat.zero_mul, Nat.add_zero] at d0
        have HYT0 := Lib.hid hyt0; have HYR0 := Lib.hid hyr0; have HU0 := Lib.hid hu0; have HD0 := Lib.hid d0
        clear hm0 hm2 hyt0 hyr0 hu0 d0
        go_upto_region 4 with fail
        clear p0 p1 p2 b0 b1 b2
        go_wp2_with fail
        clear p3
        go_loopw [5] (fun i wr => ∃ (k : Nat), k ≤ vm ∧ i = .int .i64 k ∧ Hid (Below W.heap.size W wr) ∧ Hid (∀ (i : Nat) p, i < k → vl[i]? = some p → Lit p ∧ p.lab.k = y0.x.k)) (fun i _ => vm - (intOf i).toNat)
        case atStart => exact ⟨0, by omega, rfl, Lib.hid (Below.refl _ _), Lib.hid (fun i p h => absurd h (Nat.not_lt_zero i))⟩
        case round =>
          obtain ⟨k, hk, rfl, HBr, HT⟩ := hrel
          have HBW := Lib.hid (HW.out.trans (HBr.out.mono HW.out.size))
          have HXr := Lib.hid (HX.out.below HBr.out); have HYr := Lib.hid (HY.out.below HBr.out); have HNr := Lib.hid (HN.out.below HBr.out)
          have q3 := HXr.out.cell 3
          simp at q3
          by_cases hkn : k < vm
          · obtain ⟨u, hu⟩ : ∃ u, vl[k]? = some u := ⟨_, List.getElem?_eq_getElem (by have := HLN.out; omega)⟩
            obtain ⟨b5, o5, y, hav, hbv', hkv', hyt, hyr, d0, d3, d1, d2, d4, d5⟩ := kid HAR.out HBW.out hu
            cases hav
            have e0 : decide ((k : Int) < (vm : Int)) = true := decide_eq_true (by omega)
            have e1 : decide (k < vm) = true := decide_eq_true (by omega)
            have e2 : (k : Int) < (vm : Int) := by omega
            have e3 : decide ((vm : Int) ≤ (k : Int)) = false := decide_eq_false (by omega)
            have e4 : decide (vm ≤ k) = false := decide_eq_false (by omega)
            have e5 : decide ((k : Int) < 0) = false := decide_eq_false (by omega)
            have HYT := Lib.hid hyt; have HYR := Lib.hid hyr; have HU := Lib.hid hu
            have f0 : wr.cell? ⟨b4, o4, none⟩ = some (.int .i64 y0.x.k) := by rw [HBr.out.cell (p := ⟨b4, o4, none⟩) (by show b4 < _; have := HW.out.size; omega)]; exact HD0.out
            have hkq : ∀ V, Below wr.heap.size wr V → V.cell? ⟨w.heap.size, 3, none⟩ = some (.slice (some ⟨b4, o4, none⟩) vm vc) ∧ V.cell? ⟨b4, o4 + k * 6, none⟩ = some (.int .i64 y.x.k) ∧ V.cell? ⟨b4, o4 + k * 6 + 3, none⟩ = some (.slice y.a y.m y.c) ∧ V.cell? ⟨b4, o4 + k * 6 + 1, none⟩ = some (.int .i64 y.x.n) ∧ V.cell? ⟨b4, o4 + k * 6 + 2, none⟩ = some (.string y.x.s) ∧ V.cell? ⟨b4, o4 + k * 6 + 4, none⟩ = some (.int .i64 y.x.f) ∧ V.cell? ⟨b4, o4 + k * 6 + 5, none⟩ = some (.int .i64 y.x.t) ∧ V.cell? ⟨b4, o4, none⟩ = some (.int .i64 y0.x.k) := fun V hV => by
              have hx : ∀ j : Nat, V.cell? ⟨w.heap.size, j, none⟩ = wr.cell? ⟨w.heap.size, j, none⟩ := fun j => hV.cell (p := ⟨w.heap.size, j, none⟩) HXr.out.lt
              have hd : ∀ j : Nat, V.cell? ⟨b4, j, none⟩ = wr.cell? ⟨b4, j, none⟩ := fun j => hV.cell (p := ⟨b4, j, none⟩) (by show b4 < _; have := HBW.out.size; omega)
              exact ⟨by rw [hx]; exact q3, by rw [hd]; exact d0, by rw [hd]; exact d3, by rw [hd]; exact d1, by rw [hd]; exact d2, by rw [hd]; exact d4, by rw [hd]; exact d5, by rw [hd]; exact f0⟩
            have KQ := Lib.hid hkq
            obtain ⟨lb, hlb⟩ := bool_of (Lit u)
            have HLB := Lib.hid hlb
            have HC := Lib.hid (fun (V : World) (hV : Below wr.heap.size wr V) => show Calls Try.prog 50 #[(.agg #[.int .i64 y.x.k, .int .i64 y.x.n, .string y.x.s, .slice y.a y.m y.c, .int .i64 y.x.f, .int .i64 y.x.t])] V (fun e w' => e = .returned (.bool lb) ∧ Below V.heap.size V w') from
              (rlit_any y V ((HYR.out.below HBW.out).below hV)).mono (by
                rintro e w' ⟨r, rfl, hr, hb⟩
                have : r = lb := by rw [Bool.eq_iff_iff]; rw [HYT.out] at hr; exact hr.out.trans HLB.out.symm
                rw [this]
                exact ⟨rfl, hb⟩))
            have K0 : Hid (Below wr.heap.size wr wr.drew) := Lib.hid (Below.drew (Below.refl _ _))
            clear hkq hyt hyr hu d0 d1 d2 d3 d4 d5 f0 hlb
            go_wp2_with fail
            clear q3
            cases lb with
            | false =>
              have ho : o = none := by
                rw [← HO.out]
                unfold fv
                rw [if_neg (fun h => Bool.noConfusion (HLB.out.2 (h.2 u (List.mem_of_getElem? HU.out))))]
              subst ho
              refine wp_region_held_drew (S := fun V => V.cell? ⟨w.heap.size, 3, none⟩ = some (.slice (some ⟨b4, o4, none⟩) vm vc) ∧ V.cell? ⟨b4, o4 + k * 6, none⟩ = some (.int .i64 y.x.k) ∧ V.cell? ⟨b4, o4 + k * 6 + 3, none⟩ = some (.slice y.a y.m y.c) ∧ V.cell? ⟨b4, o4 + k * 6 + 1, none⟩ = some (.int .i64 y.x.n) ∧ V.cell? ⟨b4, o4 + k * 6 + 2, none⟩ = some (.string y.x.s) ∧ V.cell? ⟨b4, o4 + k * 6 + 4, none⟩ = some (.int .i64 y.x.f) ∧ V.cell? ⟨b4, o4 + k * 6 + 5, none⟩ = some (.int .i64 y.x.t) ∧ V.cell? ⟨b4, o4, none⟩ = some (.int .i64 y0.x.k)) (by kernel_rfl) ?_ (fun hH0 => ?_)
              · exact KQ.out _ K0.out
              refine wpAnyH_take (i := 0) (v := ?va1) rfl (by kernel_rfl) (by kernel_rfl) (by kernel_rfl) (fun _ _ _ h => h) (Or.inl ⟨by rfl, ?hya1⟩) (by assumption) ?resta1
              case hya1 => (intro w hSw; (try dsimp only at hSw); go_simp; try with_reducible rfl)
              try simp only [Act.put, List.getElem_toArray, List.getElem_cons_zero, List.getElem_cons_succ, List.setIfInBounds_toArray, List.set_cons_zero, List.set_cons_succ]
              refine wpAnyH_take (i := 1) (v := ?va2) rfl (by kernel_rfl) (by kernel_rfl) (by kernel_rfl) (fun _ _ _ h => h) (Or.inl ⟨by rfl, ?hya2⟩) (by assumption) ?resta2
              case hya2 => (intro w hSw; (try dsimp only at hSw); go_simp; try with_reducible rfl)
              try simp only [Act.put, List.getElem_toArray, List.getElem_cons_zero, List.getElem_cons_succ, List.setIfInBounds_toArray, List.set_cons_zero, List.set_cons_succ]
              refine wpAnyH_take (i := 2) (v := ?va3) rfl (by kernel_rfl) (by kernel_rfl) (by kernel_rfl) (fun _ _ _ h => h) (Or.inl ⟨by rfl, ?hya3⟩) (by assumption) ?resta3
              case hya3 => (intro w hSw; (try dsimp only at hSw); go_simp; try with_reducible rfl)
              try simp only [Act.put, List.getElem_toArray, List.getElem_cons_zero, List.getElem_cons_succ, List.setIfInBounds_toArray, List.set_cons_zero, List.set_cons_succ]
              refine wpAnyH_take (i := 3) (v := ?va4) rfl (by kernel_rfl) (by kernel_rfl) (by kernel_rfl) (fun _ _ _ h => h) (Or.inl ⟨by rfl, ?hya4⟩) (by assumption) ?resta4
              case hya4 => (intro w hSw; (try dsimp only at hSw); go_simp; try with_reducible rfl)
              try simp only [Act.put, List.getElem_toArray, List.getElem_cons_zero, List.getElem_cons_succ, List.setIfInBounds_toArray, List.set_cons_zero, List.set_cons_succ]
              refine wpAnyH_take (i := 4) (v := ?va5) rfl (by kernel_rfl) (by kernel_rfl) (by kernel_rfl) (fun _ _ _ h => h) (Or.inl ⟨by rfl, ?hya5⟩) (by assumption) ?resta5
              case hya5 => (intro w hSw; (try dsimp only at hSw); go_simp; try with_reducible rfl)
              try simp only [Act.put, List.getElem_toArray, List.getElem_cons_zero, List.getElem_cons_succ, List.setIfInBounds_toArray, List.set_cons_zero, List.set_cons_succ]
              refine wpAnyH_ready (rs := [5]) (by kernel_rfl) (by simp) ?_
              refine AllReadyH.cons rfl (fun K hK => ?_) ?_
              · skip
                go_simp
                go_wp2_with (go_at_call 50; (with_reducible refine (HC.out _ K0.out).mono ?_); rintro e w3 ⟨rfl, hb3⟩; have KC : Hid (Below wr.heap.size wr w3) := Lib.hid (K0.out.trans (hb3.mono K0.out.size)); clear hb3)
                refine hK.out _ _ ?_ (fun hH1 => ?_)
                · exact KQ.out _ KC.out
                clear hK K hH0
                refine wpAnyH_take (i := 6) (v := ?va6) rfl (by kernel_rfl) (by kernel_rfl) (by kernel_rfl) (fun _ _ _ h => h) (Or.inl ⟨by rfl, ?hya6⟩) (by assumption) ?resta6
                case hya6 => (intro w hSw; (try dsimp only at hSw); go_simp; try with_reducible rfl)
                try simp only [Act.put, List.getElem_toArray, List.getElem_cons_zero, List.getElem_cons_succ, List.setIfInBounds_toArray, List.set_cons_zero, List.set_cons_succ]
                refine wpAnyH_take (i := 7) (v := ?va7) rfl (by kernel_rfl) (by kernel_rfl) (by kernel_rfl) (fun _ _ _ h => h) (Or.inl ⟨by rfl, ?hya7⟩) (by assumption) ?resta7
                case hya7 => (intro w hSw; (try dsimp only at hSw); go_simp; try with_reducible rfl)
                try simp only [Act.put, List.getElem_toArray, List.getElem_cons_zero, List.getElem_cons_succ, List.setIfInBounds_toArray, List.set_cons_zero, List.set_cons_succ]
                refine wpAnyH_take (i := 8) (v := undef) rfl (by kernel_rfl) (by kernel_rfl) (by kernel_rfl) (fun _ _ _ h => h) (Or.inr ⟨by rfl, rfl⟩) (by assumption) ?resta8
                try simp only [Act.put, List.getElem_toArray, List.getElem_cons_zero, List.getElem_cons_succ, List.setIfInBounds_toArray, List.set_cons_zero, List.set_cons_succ]
                refine wpAnyH_take (i := 9) (v := undef) rfl (by kernel_rfl) (by kernel_rfl) (by kernel_rfl) (fun _ _ _ h => h) (Or.inr ⟨by rfl, rfl⟩) (by assumption) ?resta9
                try simp only [Act.put, List.getElem_toArray, List.getElem_cons_zero, List.getElem_cons_succ, List.setIfInBounds_toArray, List.set_cons_zero, List.set_cons_succ]
                refine wpAnyH_take (i := 10) (v := undef) rfl (by kernel_rfl) (by kernel_rfl) (by kernel_rfl) (fun _ _ _ h => h) (Or.inr ⟨by rfl, rfl⟩) (by assumption) ?resta10
                try simp only [Act.put, List.getElem_toArray, List.getElem_cons_zero, List.getElem_cons_succ, List.setIfInBounds_toArray, List.set_cons_zero, List.set_cons_succ]
                refine wpAnyH_take (i := 11) (v := undef) rfl (by kernel_rfl) (by kernel_rfl) (by kernel_rfl) (fun _ _ _ h => h) (Or.inr ⟨by rfl, rfl⟩) (by assumption) ?resta11
                try simp only [Act.put, List.getElem_toArray, List.getElem_cons_zero, List.getElem_cons_succ, List.setIfInBounds_toArray, List.set_cons_zero, List.set_cons_succ]
                refine wpAnyH_take (i := 12) (v := undef) rfl (by kernel_rfl) (by kernel_rfl) (by kernel_rfl) (fun _ _ _ h => h) (Or.inr ⟨by rfl, rfl⟩) (by assumption) ?resta12
                try simp only [Act.put, List.getElem_toArray, List.getElem_cons_zero, List.getElem_cons_succ, List.setIfInBounds_toArray, List.set_cons_zero, List.set_cons_succ]
                refine wpAnyH_take (i := 13) (v := undef) rfl (by kernel_rfl) (by kernel_rfl) (by kernel_rfl) (fun _ _ _ h => h) (Or.inr ⟨by rfl, rfl⟩) (by assumption) ?resta13
                try simp only [Act.put, List.getElem_toArray, List.getElem_cons_zero, List.getElem_cons_succ, List.setIfInBounds_toArray, List.set_cons_zero, List.set_cons_succ]
                refine wpAnyH_take (i := 14) (v := undef) rfl (by kernel_rfl) (by kernel_rfl) (by kernel_rfl) (fun _ _ _ h => h) (Or.inr ⟨by rfl, rfl⟩) (by assumption) ?resta14
                try simp only [Act.put, List.getElem_toArray, List.getElem_cons_zero, List.getElem_cons_succ, List.setIfInBounds_toArray, List.set_cons_zero, List.set_cons_succ]
                refine wpAnyH_take (i := 15) (v := undef) rfl (by kernel_rfl) (by kernel_rfl) (by kernel_rfl) (fun _ _ _ h => h) (Or.inr ⟨by rfl, rfl⟩) (by assumption) ?resta15
                try simp only [Act.put, List.getElem_toArray, List.getElem_cons_zero, List.getElem_cons_succ, List.setIfInBounds_toArray, List.set_cons_zero, List.set_cons_succ]
                refine wpAnyH_take (i := 16) (v := undef) rfl (by kernel_rfl) (by kernel_rfl) (by kernel_rfl) (fun _ _ _ h => h) (Or.inr ⟨by rfl, rfl⟩) (by assumption) ?resta16
                try simp only [Act.put, List.getElem_toArray, List.getElem_cons_zero, List.getElem_cons_succ, List.setIfInBounds_toArray, List.set_cons_zero, List.set_cons_succ]
                refine wpAnyH_take (i := 17) (v := undef) rfl (by kernel_rfl) (by kernel_rfl) (by kernel_rfl) (fun _ _ _ h => h) (Or.inr ⟨by rfl, rfl⟩) (by assumption) ?resta17
                try simp only [Act.put, List.getElem_toArray, List.getElem_cons_zero, List.getElem_cons_succ, List.setIfInBounds_toArray, List.set_cons_zero, List.set_cons_succ]
                refine wpAnyH_take (i := 18) (v := undef) rfl (by kernel_rfl) (by kernel_rfl) (by kernel_rfl) (fun _ _ _ h => h) (Or.inr ⟨by rfl, rfl⟩) (by assumption) ?resta18
                try simp only [Act.put, List.getElem_toArray, List.getElem_cons_zero, List.getElem_cons_succ, List.setIfInBounds_toArray, List.set_cons_zero, List.set_cons_succ]
                refine wpAnyH_take (i := 19) (v := undef) rfl (by kernel_rfl) (by kernel_rfl) (by kernel_rfl) (fun _ _ _ h => h) (Or.inr ⟨by rfl, rfl⟩) (by assumption) ?resta19
                try simp only [Act.put, List.getElem_toArray, List.getElem_cons_zero, List.getElem_cons_succ, List.setIfInBounds_toArray, List.set_cons_zero, List.set_cons_succ]
                refine wpAnyH_take (i := 20) (v := ?va20) rfl (by kernel_rfl) (by kernel_rfl) (by kernel_rfl) (fun _ _ _ h => h) (Or.inl ⟨by rfl, ?hya20⟩) (by assumption) ?resta20
                case hya20 => (intro w hSw; (try dsimp only at hSw); go_simp; try with_reducible rfl)
                try simp only [Act.put, List.getElem_toArray, List.getElem_cons_zero, List.getElem_cons_succ, List.setIfInBounds_toArray, List.set_cons_zero, List.set_cons_succ]
                refine wpAnyH_done (by kernel_rfl) ?_ _
                have HY3 := Lib.hid (HYr.out.below KC.out); have HN3 := Lib.hid (HNr.out.below KC.out); have HB3 := Lib.hid (HBW.out.trans (KC.out.mono HBW.out.size))
                clear KQ HC
                go_wp2_with (first | (refine wpList_load_T rfl _ rfl rfl HN3.out ?_) | (refine wpList_store_T rfl _ _ rfl rfl HY3.out te.v0 rfl ?_))
                intro w9 hv9 ho9
                go_wp2
                try simp only [Exit.inBlock, Exit.then]
                refine bodyPost_ret (te.results_cell_tmp rfl _ _ (w.heap.size + 1) _ _ _ rfl hv9 Try.underlying24 rfl (by kernel_rfl)) rfl ?_
                exact ⟨rfl, HB3.out.trans (ho9.below (by omega))⟩
              exact AllReadyH.nil
            | true =>
              by_cases hkk : y.x.k = y0.x.k
              · have cc : (y.x.k != y0.x.k) = false := by rw [bne_eq_false_iff_eq]; exact hkk
                have HKK := Lib.hid hkk
                clear hkk
                go_region_held3 (fun V => V.cell? ⟨w.heap.size, 3, none⟩ = some (.slice (some ⟨b4, o4, none⟩) vm vc) ∧ V.cell? ⟨b4, o4 + k * 6, none⟩ = some (.int .i64 y.x.k) ∧ V.cell? ⟨b4, o4 + k * 6 + 3, none⟩ = some (.slice y.a y.m y.c) ∧ V.cell? ⟨b4, o4 + k * 6 + 1, none⟩ = some (.int .i64 y.x.n) ∧ V.cell? ⟨b4, o4 + k * 6 + 2, none⟩ = some (.string y.x.s) ∧ V.cell? ⟨b4, o4 + k * 6 + 4, none⟩ = some (.int .i64 y.x.f) ∧ V.cell? ⟨b4, o4 + k * 6 + 5, none⟩ = some (.int .i64 y.x.t) ∧ V.cell? ⟨b4, o4, none⟩ = some (.int .i64 y0.x.k))
                       (with_reducible first | exact KQ.out _ K0.out | exact KQ.out _ KC.out)
                       (first
                         | (go_at_call 50; (with_reducible refine (HC.out _ K0.out).mono ?_); rintro e w3 ⟨rfl, hb3⟩; have KC : Hid (Below wr.heap.size wr w3) := Lib.hid (K0.out.trans (hb3.mono K0.out.size)); clear hb3))
                have HB3 := Lib.hid (HBr.out.trans (KC.out.mono HBr.out.size))
                have hT2 : ∀ (i : Nat) p, i < k + 1 → vl[i]? = some p → Lit p ∧ p.lab.k = y0.x.k := fun i p hi hp => by
                  rcases Nat.lt_or_ge i k with h | h
                  · exact HT.out i p h hp
                  · have : i = k := by omega
                    subst this
                    rw [HU.out] at hp; cases hp
                    exact ⟨HLB.out.1 (by trivial), by rw [← HYT.out]; exact HKK.out⟩
                have HT2 := Lib.hid hT2
                clear KQ HC hT2
                go_wp2
                go_roundw
                case rel => exact ⟨k + 1, by omega, by go_num, HB3, HT2⟩
                case measure => simp [intOf]; omega
              · have cc : (y.x.k != y0.x.k) = true := by rw [bne_iff_ne]; exact hkk
                have ho : o = none := by rw [← HO.out]; exact fv_kinds HU0.out HU.out (by rw [← HYT.out, ← HYT0.out]; exact hkk)
                subst ho
                clear hkk
                go_region_held3 (fun V => V.cell? ⟨w.heap.size, 3, none⟩ = some (.slice (some ⟨b4, o4, none⟩) vm vc) ∧ V.cell? ⟨b4, o4 + k * 6, none⟩ = some (.int .i64 y.x.k) ∧ V.cell? ⟨b4, o4 + k * 6 + 3, none⟩ = some (.slice y.a y.m y.c) ∧ V.cell? ⟨b4, o4 + k * 6 + 1, none⟩ = some (.int .i64 y.x.n) ∧ V.cell? ⟨b4, o4 + k * 6 + 2, none⟩ = some (.string y.x.s) ∧ V.cell? ⟨b4, o4 + k * 6 + 4, none⟩ = some (.int .i64 y.x.f) ∧ V.cell? ⟨b4, o4 + k * 6 + 5, none⟩ = some (.int .i64 y.x.t) ∧ V.cell? ⟨b4, o4, none⟩ = some (.int .i64 y0.x.k))
                       (with_reducible first | exact KQ.out _ K0.out | exact KQ.out _ KC.out)
                       (first
                         | (go_at_call 50; (with_reducible refine (HC.out _ K0.out).mono ?_); rintro e w3 ⟨rfl, hb3⟩; have KC : Hid (Below wr.heap.size wr w3) := Lib.hid (K0.out.trans (hb3.mono K0.out.size)); clear hb3))
                have HY3 := Lib.hid (HYr.out.below KC.out); have HN3 := Lib.hid (HNr.out.below KC.out); have HB3 := Lib.hid (HBW.out.trans (KC.out.mono HBW.out.size))
                clear KQ HC
                go_wp2_with (first | (refine wpList_load_T rfl _ rfl rfl HN3.out ?_) | (refine wpList_store_T rfl _ _ rfl rfl HY3.out te.v0 rfl ?_))
                intro w9 hv9 ho9
                go_wp2
                try simp only [Exit.inBlock, Exit.then]
                refine bodyPost_ret (te.results_cell_tmp rfl _ _ (w.heap.size + 1) _ _ _ rfl hv9 Try.underlying24 rfl (by kernel_rfl)) rfl ?_
                exact ⟨rfl, HB3.out.trans (ho9.below (by omega))⟩
          · have hke : k = vm := by omega
            subst hke
            obtain ⟨b5, o5, y1, hav, hbv', hkv', hyt, hyr, d0, d3, d1, d2, d4, d5⟩ := kid HAR.out HBW.out HU0.out
            cases hav
            simp only [Nat.zero_mul, Nat.add_zero] at d0 d1
            have e10 : y1.x.k = y0.x.k := by
              show y1.tr.lab.k = y0.tr.lab.k
              rw [hyt, HYT0.out]
            have hall : ∀ p ∈ vl, Lit p ∧ p.lab.k = y1.x.k := fun p hp => by
              obtain ⟨i, hi, he⟩ := List.getElem_of_mem hp
              have := HT.out i p (by have := HLN.out; omega) (by rw [← he]; exact List.getElem?_eq_getElem hi)
              exact ⟨this.1, this.2.trans e10.symm⟩
            have hk56 : y1.x.k = 5 ∨ y1.x.k = 6 := by
              have h := hall u0 (List.mem_of_getElem? HU0.out)
              rw [← h.2]
              exact fits_lit h.1
            have ho : fv2 xk xn vl = o := by rw [← HO.out]; unfold fv; rw [if_pos ⟨rfl, fun p hp => (hall p hp).1⟩]
            have HO2 := Lib.hid ho; have HA := Lib.hid hall; have HK56 := Lib.hid hk56; have HYT := Lib.hid hyt
            have hn1 : I6 y1.x.n := hyr.2.n
            have HN1 := Lib.hid hn1
            clear hyt hyr hall hk56 ho HO HT e10 d2 d3 d4 d5 hn1 HX HY HN HYT0 HYR0 HD0
            have p0 := HXr.out.cell 0; have p1 := HXr.out.cell 1
            simp at p0 p1
            by_cases k10 : xk = 10
            · have c10 : (xk != 10) = false := by rw [bne_eq_false_iff_eq]; exact k10
              have c11 : (xk == 11) = false := by rw [beq_eq_false_iff_ne]; omega
              have HK10 := Lib.hid k10
              clear k10
              by_cases m1 : k = 1
              · subst m1
                have ho : o = none := by
                  rw [← HO2.out, HK10.out]
                  have := HLN.out
                  match vl, this with
                  | [x], h => rfl
                  | [], h => rfl
                  | x :: y :: r, h => simp at h
                subst ho
                clear HO2
                go_upto_region 13 with fail
                go_wp2_with (first | (refine wpList_load_T rfl _ rfl rfl HNr.out ?_) | (refine wpList_store_T rfl _ _ rfl rfl HYr.out te.v0 rfl ?_))
                intro w9 hv9 ho9
                go_wp2
                try simp only [Exit.inBlock, Exit.then]
                refine bodyPost_ret (te.results_cell_tmp rfl _ _ (w.heap.size + 1) _ _ _ rfl hv9 Try.underlying24 rfl (by kernel_rfl)) rfl ?_
                exact ⟨rfl, HBW.out.trans (ho9.below (by omega))⟩
              · have m2 : k = 2 := by have := HM2.out; omega
                subst m2
                clear m1
                obtain ⟨u1, u2, hl⟩ : ∃ u1 u2, vl = [u1, u2] := by
                  have := HLN.out
                  match vl, this with
                  | [x, y], _ => exact ⟨x, y, rfl⟩
                  | [], h => simp at h
                  | [x], h => simp at h
                  | x :: y :: z :: r, h => simp at h
                subst hl
                have hu : u1 = u0 := by simpa using HU0.out
                subst hu
                obtain ⟨b6, o6, y2, hav2, hbv2, hkv2, hyt2, hyr2, f0, f3, f1, f2, f4, f5⟩ := kid HAR.out HBW.out (k := 1) (u := u2) rfl
                cases hav2
                simp only [Nat.one_mul] at f1
                obtain ⟨x, hx⟩ : ∃ x, (tw xn y1.x.n y2.x.n).1 = x := ⟨_, rfl⟩
                obtain ⟨t, ht⟩ : ∃ t, (tw xn y1.x.n y2.x.n).2.1 = t := ⟨_, rfl⟩
                have hn2 : I6 y2.x.n := hyr2.2.n
                have HC := Lib.hid (fun W => ((tw_tells xn y1.x.n y2.x.n HN1.out hn2).1 W).2.1)
                rw [hx, ht] at HC
                have ho : two xn y1.x.k y1.x.n y2.x.n = o := by
                  rw [← HO2.out, HK10.out]
                  have h1 : u1.lab.k = y1.x.k := by rw [← HYT.out]; rfl
                  have h2 := (HA.out u2 (by simp)).2
                  have h3 : u1.lab.n = y1.x.n := by rw [← HYT.out]; rfl
                  have h4 : u2.lab.n = y2.x.n := by rw [← hyt2]; rfl
                  show _ = (if (10 : Int) = 10 ∧ u1.lab.k = u2.lab.k then two xn u1.lab.k u1.lab.n u2.lab.n else none)
                  rw [if_pos ⟨rfl, by rw [h1, h2]⟩, h1, h3, h4]
                unfold two at ho
                rw [hx, ht] at ho
                have HO3 := Lib.hid ho
                clear ho HO2 HA HYT hyt2 hyr2 hn2 hx ht f0 f2 f3 f4 f5
                by_cases lo : xn < 1
                · have clo : decide (xn < 1) = true := decide_eq_true lo
                  have ho : o = none := by rw [← HO3.out]; (repeat' split) <;> first | rfl | (exfalso; omega)
                  subst ho
                  clear HO3 lo HC
                  go_upto_region 13 with fail
                  go_wp2_with (first | (refine wpList_load_T rfl _ rfl rfl HNr.out ?_) | (refine wpList_store_T rfl _ _ rfl rfl HYr.out te.v0 rfl ?_))
                  intro w9 hv9 ho9
                  go_wp2
                  try simp only [Exit.inBlock, Exit.then]
                  refine bodyPost_ret (te.results_cell_tmp rfl _ _ (w.heap.size + 1) _ _ _ rfl hv9 Try.underlying24 rfl (by kernel_rfl)) rfl ?_
                  exact ⟨rfl, HBW.out.trans (ho9.below (by omega))⟩
                · have clo : decide (xn < 1) = false := decide_eq_false lo
                  by_cases hi : 13 < xn
                  · have chi : decide (13 < xn) = true := decide_eq_true hi
                    have ho : o = none := by rw [← HO3.out]; (repeat' split) <;> first | rfl | (exfalso; omega)
                    subst ho
                    clear HO3 lo hi HC
                    go_upto_region 13 with fail
                    go_wp2_with (first | (refine wpList_load_T rfl _ rfl rfl HNr.out ?_) | (refine wpList_store_T rfl _ _ rfl rfl HYr.out te.v0 rfl ?_))
                    intro w9 hv9 ho9
                    go_wp2
                    try simp only [Exit.inBlock, Exit.then]
                    refine bodyPost_ret (te.results_cell_tmp rfl _ _ (w.heap.size + 1) _ _ _ rfl hv9 Try.underlying24 rfl (by kernel_rfl)) rfl ?_
                    exact ⟨rfl, HBW.out.trans (ho9.below (by omega))⟩
                  · have chi : decide (13 < xn) = false := decide_eq_false hi
                    rcases HK56.out with h5 | h6
                    · have c5 : (y1.x.k == 5) = true := by rw [beq_iff_eq]; exact h5
                      by_cases x3 : xn < 3
                      · have c3 : decide (xn < 3) = true := decide_eq_true x3
                        have ho : o = none := by rw [← HO3.out]; (repeat' split) <;> first | rfl | (exfalso; omega)
                        subst ho
                        clear HO3 lo hi HC h5 x3
                        go_upto_region 15 with fail
                        go_wp2_with (first | (refine wpList_load_T rfl _ rfl rfl HNr.out ?_) | (refine wpList_store_T rfl _ _ rfl rfl HYr.out te.v0 rfl ?_))
                        intro w9 hv9 ho9
                        go_wp2
                        try simp only [Exit.inBlock, Exit.then]
                        refine bodyPost_ret (te.results_cell_tmp rfl _ _ (w.heap.size + 1) _ _ _ rfl hv9 Try.underlying24 rfl (by kernel_rfl)) rfl ?_
                        exact ⟨rfl, HBW.out.trans (ho9.below (by omega))⟩
                      · have c3 : decide (xn < 3) = false := decide_eq_false x3
                        have hf : (if t = 0 then if xn < 9 then some ((6 : Int), x) else some (5, x) else none) = o := by rw [← HO3.out]; (repeat' split) <;> first | rfl | (exfalso; omega)
                        have HO4 := Lib.hid hf
                        clear hf HO3 lo hi h5 x3
                        go_upto_region 16 with fail
                        have hw1 : w.heap.size + 1 < wr.heap.size := HYr.out.lt
                        have hkq : ∀ V, Below (w.heap.size + 1) wr V → V.cell? ⟨w.heap.size, 1, none⟩ = some (.int .i64 xn) ∧ V.cell? ⟨w.heap.size, 3, none⟩ = some (.slice (some ⟨b4, o4, none⟩) 2 vc) ∧ V.cell? ⟨b4, o4 + 1, none⟩ = some (.int .i64 y1.x.n) ∧ V.cell? ⟨b4, o4 + 6 + 1, none⟩ = some (.int .i64 y2.x.n) := fun V hV => by
                          have hx : ∀ j : Nat, V.cell? ⟨w.heap.size, j, none⟩ = wr.cell? ⟨w.heap.size, j, none⟩ := fun j => hV.cell (p := ⟨w.heap.size, j, none⟩) (Nat.lt_succ_self _)
                          have hd : ∀ j : Nat, V.cell? ⟨b4, j, none⟩ = wr.cell? ⟨b4, j, none⟩ := fun j => hV.cell (p := ⟨b4, j, none⟩) (by show b4 < _; omega)
                          exact ⟨by rw [hx]; exact p1, by rw [hx]; exact q3, by rw [hd]; exact d1, by rw [hd]; exact f1⟩
                        have KQ := Lib.hid hkq
                        have K0 : Hid (Below wr.heap.size wr wr.drew) := Lib.hid (Below.drew (Below.refl _ _))
                        have hw1' : w.heap.size + 1 ≤ wr.heap.size := Nat.le_of_lt hw1
                        have HYd := Lib.hid (HYr.out.below K0.out); have HNd := Lib.hid (HNr.out.below K0.out); have HBd := Lib.hid (HBW.out.trans (K0.out.mono HBW.out.size))
                        clear hkq d0 d1 f1 p0 p1 q3
                        go_region_held3 (fun V => V.cell? ⟨w.heap.size, 1, none⟩ = some (.int .i64 xn) ∧ V.cell? ⟨w.heap.size, 3, none⟩ = some (.slice (some ⟨b4, o4, none⟩) 2 vc) ∧ V.cell? ⟨b4, o4 + 1, none⟩ = some (.int .i64 y1.x.n) ∧ V.cell? ⟨b4, o4 + 6 + 1, none⟩ = some (.int .i64 y2.x.n))
                          (with_reducible (refine KQ.out _ ?_; exact Below.mono K0.out hw1'))
                          (first
                            | (go_at_call 83; (with_reducible refine (HC.out _).mono ?_); rintro e w3 ⟨rfl, rfl⟩))
                        clear KQ HC
                        by_cases t0 : t = 0
                        · have ct : (t != 0) = false := by rw [bne_eq_false_iff_eq]; exact t0
                          by_cases x9 : xn < 9
                          · have c9 : decide (xn < 9) = true := decide_eq_true x9
                            have ho : o = some (6, x) := by rw [← HO4.out, if_pos t0, if_pos x9]
                            subst ho
                            clear HO4 x9 t0
                            go_upto_region 20 with fail
                            go_wp2_with (refine wpList_store_T rfl _ _ rfl rfl HYd.out (leaf 6 x) rfl ?_)
                            intro w9 hv9 ho9
                            go_wp2
                            try simp only [Exit.inBlock, Exit.then]
                            refine bodyPost_ret (te.results_cell_tmp rfl _ _ (w.heap.size + 1) _ _ _ rfl hv9 Try.underlying24 rfl (by kernel_rfl)) rfl ?_
                            exact ⟨rfl, HBd.out.trans (ho9.below (by omega))⟩
                          · have c9 : decide (xn < 9) = false := decide_eq_false x9
                            have ho : o = some (5, x) := by rw [← HO4.out, if_pos t0, if_neg x9]
                            subst ho
                            clear HO4 x9 t0
                            go_upto_region 21 with fail
                            go_wp2_with (refine wpList_store_T rfl _ _ rfl rfl HYd.out (leaf 5 x) rfl ?_)
                            intro w9 hv9 ho9
                            go_wp2
                            try simp only [Exit.inBlock, Exit.then]
                            refine bodyPost_ret (te.results_cell_tmp rfl _ _ (w.heap.size + 1) _ _ _ rfl hv9 Try.underlying24 rfl (by kernel_rfl)) rfl ?_
                            exact ⟨rfl, HBd.out.trans (ho9.below (by omega))⟩
                        · have ct : (t != 0) = true := by rw [bne_iff_ne]; exact t0
                          have ho : o = none := by rw [← HO4.out, if_neg t0]
                          subst ho
                          clear HO4 t0
                          go_upto_region 18 with fail
                          go_wp2_with (first | (refine wpList_load_T rfl _ rfl rfl HNd.out ?_) | (refine wpList_store_T rfl _ _ rfl rfl HYd.out te.v0 rfl ?_))
                          intro w9 hv9 ho9
                          go_wp2
                          try simp only [Exit.inBlock, Exit.then]
                          refine bodyPost_ret (te.results_cell_tmp rfl _ _ (w.heap.size + 1) _ _ _ rfl hv9 Try.underlying24 rfl (by kernel_rfl)) rfl ?_
                          exact ⟨rfl, HBd.out.trans (ho9.below (by omega))⟩
                    · have c5 : (y1.x.k == 5) = false := by rw [beq_eq_false_iff_ne]; omega
                      by_cases x4 : 4 < xn
                      · have c4 : decide (4 < xn) = true := decide_eq_true x4
                        have ho : o = none := by rw [← HO3.out]; (repeat' split) <;> first | rfl | (exfalso; omega)
                        subst ho
                        clear HO3 lo hi HC h6 x4
                        go_upto_region 15 with fail
                        go_wp2_with (first | (refine wpList_load_T rfl _ rfl rfl HNr.out ?_) | (refine wpList_store_T rfl _ _ rfl rfl HYr.out te.v0 rfl ?_))
                        intro w9 hv9 ho9
                        go_wp2
                        try simp only [Exit.inBlock, Exit.then]
                        refine bodyPost_ret (te.results_cell_tmp rfl _ _ (w.heap.size + 1) _ _ _ rfl hv9 Try.underlying24 rfl (by kernel_rfl)) rfl ?_
                        exact ⟨rfl, HBW.out.trans (ho9.below (by omega))⟩
                      · have c4 : decide (4 < xn) = false := decide_eq_false x4
                        have hf : (if t = 0 then if xn < 9 then some ((6 : Int), x) else some (5, x) else none) = o := by rw [← HO3.out]; (repeat' split) <;> first | rfl | (exfalso; omega)
                        have HO4 := Lib.hid hf
                        clear hf HO3 lo hi h6 x4
                        go_upto_region 16 with fail
                        have hw1 : w.heap.size + 1 < wr.heap.size := HYr.out.lt
                        have hkq : ∀ V, Below (w.heap.size + 1) wr V → V.cell? ⟨w.heap.size, 1, none⟩ = some (.int .i64 xn) ∧ V.cell? ⟨w.heap.size, 3, none⟩ = some (.slice (some ⟨b4, o4, none⟩) 2 vc) ∧ V.cell? ⟨b4, o4 + 1, none⟩ = some (.int .i64 y1.x.n) ∧ V.cell? ⟨b4, o4 + 6 + 1, none⟩ = some (.int .i64 y2.x.n) := fun V hV => by
                          have hx : ∀ j : Nat, V.cell? ⟨w.heap.size, j, none⟩ = wr.cell? ⟨w.heap.size, j, none⟩ := fun j => hV.cell (p := ⟨w.heap.size, j, none⟩) (Nat.lt_succ_self _)
                          have hd : ∀ j : Nat, V.cell? ⟨b4, j, none⟩ = wr.cell? ⟨b4, j, none⟩ := fun j => hV.cell (p := ⟨b4, j, none⟩) (by show b4 < _; omega)
                          exact ⟨by rw [hx]; exact p1, by rw [hx]; exact q3, by rw [hd]; exact d1, by rw [hd]; exact f1⟩
                        have KQ := Lib.hid hkq
                        have K0 : Hid (Below wr.heap.size wr wr.drew) := Lib.hid (Below.drew (Below.refl _ _))
                        have hw1' : w.heap.size + 1 ≤ wr.heap.size := Nat.le_of_lt hw1
                        have HYd := Lib.hid (HYr.out.below K0.out); have HNd := Lib.hid (HNr.out.below K0.out); have HBd := Lib.hid (HBW.out.trans (K0.out.mono HBW.out.size))
                        clear hkq d0 d1 f1 p0 p1 q3
                        go_region_held3 (fun V => V.cell? ⟨w.heap.size, 1, none⟩ = some (.int .i64 xn) ∧ V.cell? ⟨w.heap.size, 3, none⟩ = some (.slice (some ⟨b4, o4, none⟩) 2 vc) ∧ V.cell? ⟨b4, o4 + 1, none⟩ = some (.int .i64 y1.x.n) ∧ V.cell? ⟨b4, o4 + 6 + 1, none⟩ = some (.int .i64 y2.x.n))
                          (with_reducible (refine KQ.out _ ?_; exact Below.mono K0.out hw1'))
                          (first
                            | (go_at_call 83; (with_reducible refine (HC.out _).mono ?_); rintro e w3 ⟨rfl, rfl⟩))
                        clear KQ HC
                        by_cases t0 : t = 0
                        · have ct : (t != 0) = false := by rw [bne_eq_false_iff_eq]; exact t0
                          by_cases x9 : xn < 9
                          · have c9 : decide (xn < 9) = true := decide_eq_true x9
                            have ho : o = some (6, x) := by rw [← HO4.out, if_pos t0, if_pos x9]
                            subst ho
                            clear HO4 x9 t0
                            go_upto_region 20 with fail
                            go_wp2_with (refine wpList_store_T rfl _ _ rfl rfl HYd.out (leaf 6 x) rfl ?_)
                            intro w9 hv9 ho9
                            go_wp2
                            try simp only [Exit.inBlock, Exit.then]
                            refine bodyPost_ret (te.results_cell_tmp rfl _ _ (w.heap.size + 1) _ _ _ rfl hv9 Try.underlying24 rfl (by kernel_rfl)) rfl ?_
                            exact ⟨rfl, HBd.out.trans (ho9.below (by omega))⟩
                          · have c9 : decide (xn < 9) = false := decide_eq_false x9
                            have ho : o = some (5, x) := by rw [← HO4.out, if_pos t0, if_neg x9]
                            subst ho
                            clear HO4 x9 t0
                            go_upto_region 21 with fail
                            go_wp2_with (refine wpList_store_T rfl _ _ rfl rfl HYd.out (leaf 5 x) rfl ?_)
                            intro w9 hv9 ho9
                            go_wp2
                            try simp only [Exit.inBlock, Exit.then]
                            refine bodyPost_ret (te.results_cell_tmp rfl _ _ (w.heap.size + 1) _ _ _ rfl hv9 Try.underlying24 rfl (by kernel_rfl)) rfl ?_
                            exact ⟨rfl, HBd.out.trans (ho9.below (by omega))⟩
                        · have ct : (t != 0) = true := by rw [bne_iff_ne]; exact t0
                          have ho : o = none := by rw [← HO4.out, if_neg t0]
                          subst ho
                          clear HO4 t0
                          go_upto_region 18 with fail
                          go_wp2_with (first | (refine wpList_load_T rfl _ rfl rfl HNd.out ?_) | (refine wpList_store_T rfl _ _ rfl rfl HYd.out te.v0 rfl ?_))
                          intro w9 hv9 ho9
                          go_wp2
                          try simp only [Exit.inBlock, Exit.then]
                          refine bodyPost_ret (te.results_cell_tmp rfl _ _ (w.heap.size + 1) _ _ _ rfl hv9 Try.underlying24 rfl (by kernel_rfl)) rfl ?_
                          exact ⟨rfl, HBd.out.trans (ho9.below (by omega))⟩
            · have c10 : (xk != 10) = true := by rw [bne_iff_ne]; exact k10
              by_cases k11 : xk = 11
              · have c11 : (xk == 11) = true := by rw [beq_iff_eq]; exact k11
                have HK11 := Lib.hid k11
                clear k10 k11
                by_cases m1 : k = 1
                · subst m1
                  obtain ⟨u1, hl⟩ : ∃ u1, vl = [u1] := List.length_eq_one_iff.1 HLN.out
                  subst hl
                  have hu : u1 = u0 := by simpa using HU0.out
                  subst hu
                  obtain ⟨z, hz⟩ : ∃ z, (tw xn y1.x.n 0).2.2 = z := ⟨_, rfl⟩
                  have HC := Lib.hid (fun W => ((tw_tells xn y1.x.n 0 HN1.out (by unfold I6; omega)).1 W).2.2.2)
                  rw [hz] at HC
                  have ho : one xn y1.x.k y1.x.n = o := by
                    rw [← HO2.out, HK11.out, ← HYT.out]
                    show _ = (if (11 : Int) = 11 then one xn y1.tr.lab.k y1.tr.lab.n else none)
                    rw [if_pos rfl]
                    rfl
                  unfold one at ho
                  rw [hz] at ho
                  have HO3 := Lib.hid ho
                  clear ho HO2 HA HYT hz
                  rcases HK56.out with h5 | h6
                  · have c5 : (y1.x.k == 5) = true := by rw [beq_iff_eq]; exact h5
                    by_cases x1 : xn = 1
                    · have cx1 : (xn == 1) = true := by rw [beq_iff_eq]; exact x1
                      have hf : o = some (y1.x.k, z) := by rw [← HO3.out, if_pos (Or.inl ⟨x1, h5⟩)]
                      have HO4 := Lib.hid hf
                      clear hf HO3 h5 x1
                      go_upto_region 11 with fail
                      have hw1 : w.heap.size + 1 < wr.heap.size := HYr.out.lt
                      have hkq : ∀ V, Below (w.heap.size + 1) wr V → V.cell? ⟨w.heap.size, 1, none⟩ = some (.int .i64 xn) ∧ V.cell? ⟨w.heap.size, 3, none⟩ = some (.slice (some ⟨b4, o4, none⟩) 1 vc) ∧ V.cell? ⟨b4, o4, none⟩ = some (.int .i64 y1.x.k) ∧ V.cell? ⟨b4, o4 + 1, none⟩ = some (.int .i64 y1.x.n) := fun V hV => by
                        have hx : ∀ j : Nat, V.cell? ⟨w.heap.size, j, none⟩ = wr.cell? ⟨w.heap.size, j, none⟩ := fun j => hV.cell (p := ⟨w.heap.size, j, none⟩) (Nat.lt_succ_self _)
                        have hd : ∀ j : Nat, V.cell? ⟨b4, j, none⟩ = wr.cell? ⟨b4, j, none⟩ := fun j => hV.cell (p := ⟨b4, j, none⟩) (by show b4 < _; omega)
                        exact ⟨by rw [hx]; exact p1, by rw [hx]; exact q3, by rw [hd]; exact d0, by rw [hd]; exact d1⟩
                      have KQ := Lib.hid hkq
                      have K0 : Hid (Below wr.heap.size wr wr.drew) := Lib.hid (Below.drew (Below.refl _ _))
                      have hw1' : w.heap.size + 1 ≤ wr.heap.size := Nat.le_of_lt hw1
                      have HYd := Lib.hid (HYr.out.below K0.out); have HNd := Lib.hid (HNr.out.below K0.out); have HBd := Lib.hid (HBW.out.trans (K0.out.mono HBW.out.size))
                      obtain ⟨r, hr⟩ : ∃ r, leaf y1.x.k z = r := ⟨_, rfl⟩
                      have hbd : Value.agg #[.int .i64 y1.x.k, .int .i64 z, .string ⟨#[]⟩, .slice none 0 0, .int .i64 0, .int .i64 0] = .agg (tc r) := by rw [← hr]; rfl
                      have hst := store_eqT HYd.out r; have hz6 := tc_size r
                      have HR := Lib.hid hr
                      clear hr
                      clear hkq d0 d1 p0 p1 q3
                      go_region_held3 (fun V => V.cell? ⟨w.heap.size, 1, none⟩ = some (.int .i64 xn) ∧ V.cell? ⟨w.heap.size, 3, none⟩ = some (.slice (some ⟨b4, o4, none⟩) 1 vc) ∧ V.cell? ⟨b4, o4, none⟩ = some (.int .i64 y1.x.k) ∧ V.cell? ⟨b4, o4 + 1, none⟩ = some (.int .i64 y1.x.n))
                        (with_reducible (refine KQ.out _ ?_; first | exact Below.mono K0.out hw1' | exact below_row (Below.mono K0.out hw1') (Nat.le_refl _) _))
                        (first
                          | (go_at_call 82; (with_reducible refine (HC.out _).mono ?_); rintro e w3 ⟨rfl, rfl⟩))
                      clear KQ HC hst hz6 hbd
                      have hv9 : VB (wr.drew.setRow (w.heap.size + 1) (tc r)) (w.heap.size + 1) r := blk_setRow HYd.out
                      have hb9 : Below w.heap.size w (wr.drew.setRow (w.heap.size + 1) (tc r)) := below_row HBd.out (by omega) _
                      have HV9 := Lib.hid hv9; have HB9 := Lib.hid hb9
                      generalize (wr.drew.setRow (w.heap.size + 1) (tc r)) = w9 at HV9 HB9 ⊢
                      clear hv9 hb9
                      go_wp2
                      try simp only [Exit.inBlock, Exit.then]
                      refine bodyPost_ret (te.results_cell_tmp rfl _ _ (w.heap.size + 1) _ _ _ rfl HV9.out Try.underlying24 rfl (by kernel_rfl)) rfl ?_
                      refine ⟨?_, HB9.out⟩
                      rw [HO4.out]
                      show _ = Ending.returned (.tuple #[(leaf y1.x.k z).val, .bool true])
                      rw [HR.out]
                      rfl
                    · have cx1 : (xn == 1) = false := by rw [beq_eq_false_iff_ne]; exact x1
                      have ho : o = none := by rw [← HO3.out, if_neg (by omega)]
                      subst ho
                      clear HO3 h5 x1 HC
                      by_cases x2 : xn = 2
                      · have cx2 : (xn == 2) = true := by rw [beq_iff_eq]; exact x2
                        clear x2
                        go_upto_region 13 with fail
                        go_wp2_with (first | (refine wpList_load_T rfl _ rfl rfl HNr.out ?_) | (refine wpList_store_T rfl _ _ rfl rfl HYr.out te.v0 rfl ?_))
                        intro w9 hv9 ho9
                        go_wp2
                        try simp only [Exit.inBlock, Exit.then]
                        refine bodyPost_ret (te.results_cell_tmp rfl _ _ (w.heap.size + 1) _ _ _ rfl hv9 Try.underlying24 rfl (by kernel_rfl)) rfl ?_
                        exact ⟨rfl, HBW.out.trans (ho9.below (by omega))⟩
                      · have cx2 : (xn == 2) = false := by rw [beq_eq_false_iff_ne]; exact x2
                        clear x2
                        go_upto_region 13 with fail
                        go_wp2_with (first | (refine wpList_load_T rfl _ rfl rfl HNr.out ?_) | (refine wpList_store_T rfl _ _ rfl rfl HYr.out te.v0 rfl ?_))
                        intro w9 hv9 ho9
                        go_wp2
                        try simp only [Exit.inBlock, Exit.then]
                        refine bodyPost_ret (te.results_cell_tmp rfl _ _ (w.heap.size + 1) _ _ _ rfl hv9 Try.underlying24 rfl (by kernel_rfl)) rfl ?_
                        exact ⟨rfl, HBW.out.trans (ho9.below (by omega))⟩
                  · have c5 : (y1.x.k == 5) = false := by rw [beq_eq_false_iff_ne]; omega
                    by_cases x2 : xn = 2
                    · have cx1 : (xn == 1) = false := by rw [beq_eq_false_iff_ne]; omega
                      have cx2 : (xn == 2) = true := by rw [beq_iff_eq]; exact x2
                      have hf : o = some (y1.x.k, z) := by rw [← HO3.out, if_pos (Or.inr ⟨x2, h6⟩)]
                      have HO4 := Lib.hid hf
                      clear hf HO3 h6 x2
                      go_upto_region 11 with fail
                      have hw1 : w.heap.size + 1 < wr.heap.size := HYr.out.lt
                      have hkq : ∀ V, Below (w.heap.size + 1) wr V → V.cell? ⟨w.heap.size, 1, none⟩ = some (.int .i64 xn) ∧ V.cell? ⟨w.heap.size, 3, none⟩ = some (.slice (some ⟨b4, o4, none⟩) 1 vc) ∧ V.cell? ⟨b4, o4, none⟩ = some (.int .i64 y1.x.k) ∧ V.cell? ⟨b4, o4 + 1, none⟩ = some (.int .i64 y1.x.n) := fun V hV => by
                        have hx : ∀ j : Nat, V.cell? ⟨w.heap.size, j, none⟩ = wr.cell? ⟨w.heap.size, j, none⟩ := fun j => hV.cell (p := ⟨w.heap.size, j, none⟩) (Nat.lt_succ_self _)
                        have hd : ∀ j : Nat, V.cell? ⟨b4, j, none⟩ = wr.cell? ⟨b4, j, none⟩ := fun j => hV.cell (p := ⟨b4, j, none⟩) (by show b4 < _; omega)
                        exact ⟨by rw [hx]; exact p1, by rw [hx]; exact q3, by rw [hd]; exact d0, by rw [hd]; exact d1⟩
                      have KQ := Lib.hid hkq
                      have K0 : Hid (Below wr.heap.size wr wr.drew) := Lib.hid (Below.drew (Below.refl _ _))
                      have hw1' : w.heap.size + 1 ≤ wr.heap.size := Nat.le_of_lt hw1
                      have HYd := Lib.hid (HYr.out.below K0.out); have HNd := Lib.hid (HNr.out.below K0.out); have HBd := Lib.hid (HBW.out.trans (K0.out.mono HBW.out.size))
                      obtain ⟨r, hr⟩ : ∃ r, leaf y1.x.k z = r := ⟨_, rfl⟩
                      have hbd : Value.agg #[.int .i64 y1.x.k, .int .i64 z, .string ⟨#[]⟩, .slice none 0 0, .int .i64 0, .int .i64 0] = .agg (tc r) := by rw [← hr]; rfl
                      have hst := store_eqT HYd.out r; have hz6 := tc_size r
                      have HR := Lib.hid hr
                      clear hr
                      clear hkq d0 d1 p0 p1 q3
                      go_region_held3 (fun V => V.cell? ⟨w.heap.size, 1, none⟩ = some (.int .i64 xn) ∧ V.cell? ⟨w.heap.size, 3, none⟩ = some (.slice (some ⟨b4, o4, none⟩) 1 vc) ∧ V.cell? ⟨b4, o4, none⟩ = some (.int .i64 y1.x.k) ∧ V.cell? ⟨b4, o4 + 1, none⟩ = some (.int .i64 y1.x.n))
                        (with_reducible (refine KQ.out _ ?_; first | exact Below.mono K0.out hw1' | exact below_row (Below.mono K0.out hw1') (Nat.le_refl _) _))
                        (first
                          | (go_at_call 82; (with_reducible refine (HC.out _).mono ?_); rintro e w3 ⟨rfl, rfl⟩))
                      clear KQ HC hst hz6 hbd
                      have hv9 : VB (wr.drew.setRow (w.heap.size + 1) (tc r)) (w.heap.size + 1) r := blk_setRow HYd.out
                      have hb9 : Below w.heap.size w (wr.drew.setRow (w.heap.size + 1) (tc r)) := below_row HBd.out (by omega) _
                      have HV9 := Lib.hid hv9; have HB9 := Lib.hid hb9
                      generalize (wr.drew.setRow (w.heap.size + 1) (tc r)) = w9 at HV9 HB9 ⊢
                      clear hv9 hb9
                      go_wp2
                      try simp only [Exit.inBlock, Exit.then]
                      refine bodyPost_ret (te.results_cell_tmp rfl _ _ (w.heap.size + 1) _ _ _ rfl HV9.out Try.underlying24 rfl (by kernel_rfl)) rfl ?_
                      refine ⟨?_, HB9.out⟩
                      rw [HO4.out]
                      show _ = Ending.returned (.tuple #[(leaf y1.x.k z).val, .bool true])
                      rw [HR.out]
                      rfl
                    · have cx2 : (xn == 2) = false := by rw [beq_eq_false_iff_ne]; exact x2
                      have ho : o = none := by rw [← HO3.out, if_neg (by omega)]
                      subst ho
                      clear HO3 h6 x2 HC
                      by_cases x1 : xn = 1
                      · have cx1 : (xn == 1) = true := by rw [beq_iff_eq]; exact x1
                        clear x1
                        go_upto_region 13 with fail
                        go_wp2_with (first | (refine wpList_load_T rfl _ rfl rfl HNr.out ?_) | (refine wpList_store_T rfl _ _ rfl rfl HYr.out te.v0 rfl ?_))
                        intro w9 hv9 ho9
                        go_wp2
                        try simp only [Exit.inBlock, Exit.then]
                        refine bodyPost_ret (te.results_cell_tmp rfl _ _ (w.heap.size + 1) _ _ _ rfl hv9 Try.underlying24 rfl (by kernel_rfl)) rfl ?_
                        exact ⟨rfl, HBW.out.trans (ho9.below (by omega))⟩
                      · have cx1 : (xn == 1) = false := by rw [beq_eq_false_iff_ne]; exact x1
                        clear x1
                        go_upto_region 13 with fail
                        go_wp2_with (first | (refine wpList_load_T rfl _ rfl rfl HNr.out ?_) | (refine wpList_store_T rfl _ _ rfl rfl HYr.out te.v0 rfl ?_))
                        intro w9 hv9 ho9
                        go_wp2
                        try simp only [Exit.inBlock, Exit.then]
                        refine bodyPost_ret (te.results_cell_tmp rfl _ _ (w.heap.size + 1) _ _ _ rfl hv9 Try.underlying24 rfl (by kernel_rfl)) rfl ?_
                        exact ⟨rfl, HBW.out.trans (ho9.below (by omega))⟩
                · have m2 : k = 2 := by have := HM2.out; omega
                  subst m2
                  have ho : o = none := by
                    rw [← HO2.out, HK11.out]
                    have := HLN.out
                    match vl, this with
                    | [x, y], h => rfl
                    | [], h => rfl
                    | [x], h => simp at h
                    | x :: y :: z :: r, h => rfl
                  subst ho
                  clear HO2
                  go_upto_region 13 with fail
                  go_wp2_with (first | (refine wpList_load_T rfl _ rfl rfl HNr.out ?_) | (refine wpList_store_T rfl _ _ rfl rfl HYr.out te.v0 rfl ?_))
                  intro w9 hv9 ho9
                  go_wp2
                  try simp only [Exit.inBlock, Exit.then]
                  refine bodyPost_ret (te.results_cell_tmp rfl _ _ (w.heap.size + 1) _ _ _ rfl hv9 Try.underlying24 rfl (by kernel_rfl)) rfl ?_
                  exact ⟨rfl, HBW.out.trans (ho9.below (by omega))⟩
              · have c11 : (xk == 11) = false := by rw [beq_eq_false_iff_ne]; exact k11
                have ho : o = none := by
                  rw [← HO2.out]
                  match vl with
                  | [x, y] => exact if_neg (fun h => k10 h.1)
                  | [] => rfl
                  | [x] => exact if_neg k11
                  | x :: y :: z :: r => rfl
                subst ho
                clear HO2 k10 k11
                go_upto_region 13 with fail
                go_wp2_with (first | (refine wpList_load_T rfl _ rfl rfl HNr.out ?_) | (refine wpList_store_T rfl _ _ rfl rfl HYr.out te.v0 rfl ?_))
                intro w9 hv9 ho9
                go_wp2
                try simp only [Exit.inBlock, Exit.then]
                refine bodyPost_ret (te.results_cell_tmp rfl _ _ (w.heap.size + 1) _ _ _ rfl hv9 Try.underlying24 rfl (by kernel_rfl)) rfl ?_
                exact ⟨rfl, HBW.out.trans (ho9.below (by omega))⟩
  · have s1 : ¬ xs.toList = [] := ne_empty hs
    have s2 : xs.toList.isEmpty = false := by rw [List.isEmpty_eq_false_iff]; exact s1
    have ho : o = none := by rw [← HO.out]; unfold fv; rw [if_neg (fun h => hs h.1)]
    subst ho
    clear hs HO
    go_wp2_with (first | (refine wpList_load_T rfl _ rfl rfl HN.out ?_) | (refine wpList_store_T rfl _ _ rfl rfl HY.out te.v0 rfl ?_))
    intro w9 hv9 ho9
    go_wp2
    try simp only [Exit.inBlock, Exit.then]
    refine bodyPost_ret (te.results_cell_tmp rfl _ _ (w.heap.size + 1) _ _ _ rfl hv9 Try.underlying24 rfl (by kernel_rfl)) rfl ?_
    exact ⟨rfl, HW.out.trans (ho9.below (by omega))⟩
end Go.Proofs.Ytjjnboenehomgaa.fo
end
