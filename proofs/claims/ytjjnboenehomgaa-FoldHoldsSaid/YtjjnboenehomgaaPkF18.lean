import Derived.Test.YtjjnboenehomgaaPkF17
section
namespace Go.Proofs.Ytjjnboenehomgaa.fo
open Go.ChangeShapes Go.WideShapes Go.ChangeAt Go.RowKit
open bs tr te
set_option linter.unusedVariables false
set_option linter.unusedSimpArgs false
set_option maxRecDepth 100000 in
set_option maxHeartbeats 2000000 in
theorem literal_any (k n : Int) (ok : Bool) (w : World) : Calls Try.prog 79 #[.int .i64 k, .int .i64 n, .bool ok] w (VP (if ok then some (k, n) else none) w) := by
  cases ok with
  | false =>
    go_enter Try.func79, Try.ntmps79
    go_wp2
    try simp only [Exit.inBlock, Exit.then]
    refine bodyPost_ret (te.results_cell_tmp rfl _ _ w.heap.size 24 #[.int .i64 0, .int .i64 0, .string ⟨#[]⟩, .slice none 0 0, .int .i64 0, .int .i64 0] _ rfl (Blk.new w _ _) Try.underlying24 rfl (by kernel_rfl)) rfl ?_
    exact ⟨rfl, (Below.refl _ _).alloc (Nat.le_refl _) _⟩
  | true =>
    go_enter Try.func79, Try.ntmps79
    go_wp2
    try simp only [Exit.inBlock, Exit.then]
    refine bodyPost_ret (te.results_cell_tmp rfl _ _ w.heap.size 24 #[.int .i64 k, .int .i64 n, .string ⟨#[]⟩, .slice none 0 0, .int .i64 0, .int .i64 0] _ rfl (Blk.new w _ _) Try.underlying24 rfl (by kernel_rfl)) rfl ?_
    exact ⟨rfl, (Below.refl _ _).alloc (Nat.le_refl _) _⟩
noncomputable def two (op ka a b : Int) : Option (Int × Int) :=
  if (tw op a b).2.1 = 0 then
    if 9 ≤ op ∧ op ≤ 13 then (if ka = 5 then some (5, (tw op a b).1) else none)
    else if 5 ≤ op ∧ op ≤ 8 then (if ka = 5 then some (6, (tw op a b).1) else none)
    else if op = 1 ∨ op = 2 then (if ka = 6 then some (6, (tw op a b).1) else none)
    else if op = 3 ∨ op = 4 then some (6, (tw op a b).1) else none
  else none
noncomputable def one (op ka a : Int) : Option (Int × Int) := if op = 1 ∧ ka = 5 ∨ op = 2 ∧ ka = 6 then some (ka, (tw op a 0).2.2) else none
theorem literal_o (k n : Int) (ok : Bool) (o : Option (Int × Int)) (h : (if ok then some (k, n) else none) = o) (w : World) : Calls Try.prog 79 #[.int .i64 k, .int .i64 n, .bool ok] w (VP o w) := by
  rw [← h]
  exact literal_any k n ok w
set_option maxRecDepth 100000 in
set_option maxHeartbeats 4000000 in
theorem one_any (op : Int) (a : te.Vn) (w : World) (ha : a.Rd w) (ho : I6 op) : Calls Try.prog 47 #[.int .i64 op, a.val] w (VP (one op a.x.k a.x.n) w) := by
  have hW : Below w.heap.size w ((w.alloc (.cells #[.int .i64 a.x.k, .int .i64 a.x.n, .string a.x.s, .slice a.a a.m a.c, .int .i64 a.x.f, .int .i64 a.x.t] 24)).alloc (.cells #[.int .i64 0, .int .i64 0, .string ⟨#[]⟩, .slice none 0 0, .int .i64 0, .int .i64 0] 24)) := ((Below.refl _ _).alloc (Nat.le_refl _) _).alloc (by simp only [te.size_alloc]; omega) _
  have hX : VB ((w.alloc (.cells #[.int .i64 a.x.k, .int .i64 a.x.n, .string a.x.s, .slice a.a a.m a.c, .int .i64 a.x.f, .int .i64 a.x.t] 24)).alloc (.cells #[.int .i64 0, .int .i64 0, .string ⟨#[]⟩, .slice none 0 0, .int .i64 0, .int .i64 0] 24)) w.heap.size a := (vb_new w a).below (below_alloc _ _)
  have hY : VB ((w.alloc (.cells #[.int .i64 a.x.k, .int .i64 a.x.n, .string a.x.s, .slice a.a a.m a.c, .int .i64 a.x.f, .int .i64 a.x.t] 24)).alloc (.cells #[.int .i64 0, .int .i64 0, .string ⟨#[]⟩, .slice none 0 0, .int .i64 0, .int .i64 0] 24)) (w.heap.size + 1) te.v0 := by
    have := vb_new0 (w.alloc (.cells #[.int .i64 a.x.k, .int .i64 a.x.n, .string a.x.s, .slice a.a a.m a.c, .int .i64 a.x.f, .int .i64 a.x.t] 24))
    rwa [te.size_alloc] at this
  have hb : I6 a.x.n := ha.2.n
  have HT := Lib.hid (fun W => ((tw_tells op a.x.n 0 hb (by unfold I6; omega)).1 W).2.2.1)
  have HW := Lib.hid hW; have HX := Lib.hid hX; have HY := Lib.hid hY
  obtain ⟨o, ho2⟩ : ∃ o, one op a.x.k a.x.n = o := ⟨_, rfl⟩
  have HO := Lib.hid ho2
  rw [ho2]
  obtain ⟨z, hz⟩ : ∃ z, (tw op a.x.n 0).2.2 = z := ⟨_, rfl⟩
  rw [hz] at HT
  unfold one at HO
  rw [hz] at HO
  clear hW hX hY ha hb ho2 hz
  unfold te.Vn.val
  go_enter Try.func47, Try.ntmps47
  go_upto_region 1 with fail
  generalize hWW : ((w.alloc (.cells #[.int .i64 a.x.k, .int .i64 a.x.n, .string a.x.s, .slice a.a a.m a.c, .int .i64 a.x.f, .int .i64 a.x.t] 24)).alloc (.cells #[.int .i64 0, .int .i64 0, .string ⟨#[]⟩, .slice none 0 0, .int .i64 0, .int .i64 0] 24)) = W at HW HX HY ⊢
  clear hWW
  have p0 := HX.out.cell 0; have p1 := HX.out.cell 1
  simp at p0 p1
  go_wp2_with fail
  refine (HT.out W).mono ?_
  rintro e w2 ⟨rfl, rfl⟩
  by_cases o1 : op = 1
  · subst o1
    by_cases k5 : a.x.k = 5
    · have c5 : (a.x.k == 5) = true := by rw [beq_iff_eq]; omega
      have hv : (if true = true then some (a.x.k, z) else none) = o := by rw [← HO.out]; simp [k5]
      have HV := Lib.hid hv
      clear hv k5
      go_wp2_with fail
      refine (literal_o a.x.k z true o HV.out w2).mono ?_
      rintro e w3 ⟨rfl, hb3⟩
      have HY3 := Lib.hid (HY.out.below hb3); have HB3 := Lib.hid (HW.out.trans (hb3.mono HW.out.size))
      clear hb3
      go_wp2_with (refine wpList_store_T rfl _ _ rfl rfl HY3.out (lv o) rfl ?_)
      intro w4 hv4 ho4
      go_wp2
      try simp only [Exit.inBlock, Exit.then]
      refine bodyPost_ret (te.results_cell_tmp rfl _ _ (w.heap.size + 1) _ _ _ rfl hv4 Try.underlying24 rfl (by kernel_rfl)) rfl ?_
      exact ⟨rfl, HB3.out.trans (ho4.below (by omega))⟩
    · have c5 : (a.x.k == 5) = false := by rw [beq_eq_false_iff_ne]; omega
      have hv : (if false = true then some (a.x.k, z) else none) = o := by rw [← HO.out]; simp [k5]
      have HV := Lib.hid hv
      clear hv k5
      go_wp2_with fail
      refine (literal_o a.x.k z false o HV.out w2).mono ?_
      rintro e w3 ⟨rfl, hb3⟩
      have HY3 := Lib.hid (HY.out.below hb3); have HB3 := Lib.hid (HW.out.trans (hb3.mono HW.out.size))
      clear hb3
      go_wp2_with (refine wpList_store_T rfl _ _ rfl rfl HY3.out (lv o) rfl ?_)
      intro w4 hv4 ho4
      go_wp2
      try simp only [Exit.inBlock, Exit.then]
      refine bodyPost_ret (te.results_cell_tmp rfl _ _ (w.heap.size + 1) _ _ _ rfl hv4 Try.underlying24 rfl (by kernel_rfl)) rfl ?_
      exact ⟨rfl, HB3.out.trans (ho4.below (by omega))⟩
  · have c1 : (op == 1) = false := by rw [beq_eq_false_iff_ne]; omega
    by_cases o2 : op = 2
    · subst o2
      by_cases k6 : a.x.k = 6
      · have c6 : (a.x.k == 6) = true := by rw [beq_iff_eq]; omega
        have hv : (if true = true then some (a.x.k, z) else none) = o := by rw [← HO.out]; simp [k6]
        have HV := Lib.hid hv
        clear hv k6 o1
        go_wp2_with fail
        refine (literal_o a.x.k z true o HV.out w2).mono ?_
        rintro e w3 ⟨rfl, hb3⟩
        have HY3 := Lib.hid (HY.out.below hb3); have HB3 := Lib.hid (HW.out.trans (hb3.mono HW.out.size))
        clear hb3
        go_wp2_with (refine wpList_store_T rfl _ _ rfl rfl HY3.out (lv o) rfl ?_)
        intro w4 hv4 ho4
        go_wp2
        try simp only [Exit.inBlock, Exit.then]
        refine bodyPost_ret (te.results_cell_tmp rfl _ _ (w.heap.size + 1) _ _ _ rfl hv4 Try.underlying24 rfl (by kernel_rfl)) rfl ?_
        exact ⟨rfl, HB3.out.trans (ho4.below (by omega))⟩
      · have c6 : (a.x.k == 6) = false := by rw [beq_eq_false_iff_ne]; omega
        have hv : (if false = true then some (a.x.k, z) else none) = o := by rw [← HO.out]; simp [k6]
        have HV := Lib.hid hv
        clear hv k6 o1
        go_wp2_with fail
        refine (literal_o a.x.k z false o HV.out w2).mono ?_
        rintro e w3 ⟨rfl, hb3⟩
        have HY3 := Lib.hid (HY.out.below hb3); have HB3 := Lib.hid (HW.out.trans (hb3.mono HW.out.size))
        clear hb3
        go_wp2_with (refine wpList_store_T rfl _ _ rfl rfl HY3.out (lv o) rfl ?_)
        intro w4 hv4 ho4
        go_wp2
        try simp only [Exit.inBlock, Exit.then]
        refine bodyPost_ret (te.results_cell_tmp rfl _ _ (w.heap.size + 1) _ _ _ rfl hv4 Try.underlying24 rfl (by kernel_rfl)) rfl ?_
        exact ⟨rfl, HB3.out.trans (ho4.below (by omega))⟩
    · have c2 : (op == 2) = false := by rw [beq_eq_false_iff_ne]; omega
      have hv : (if false = true then some (a.x.k, z) else none) = o := by rw [← HO.out]; simp [o1, o2]
      have HV := Lib.hid hv
      clear hv o1 o2
      go_wp2_with fail
      refine (literal_o a.x.k z false o HV.out w2).mono ?_
      rintro e w3 ⟨rfl, hb3⟩
      have HY3 := Lib.hid (HY.out.below hb3); have HB3 := Lib.hid (HW.out.trans (hb3.mono HW.out.size))
      clear hb3
      go_wp2_with (refine wpList_store_T rfl _ _ rfl rfl HY3.out (lv o) rfl ?_)
      intro w4 hv4 ho4
      go_wp2
      try simp only [Exit.inBlock, Exit.then]
      refine bodyPost_ret (te.results_cell_tmp rfl _ _ (w.heap.size + 1) _ _ _ rfl hv4 Try.underlying24 rfl (by kernel_rfl)) rfl ?_
      exact ⟨rfl, HB3.out.trans (ho4.below (by omega))⟩
set_option maxRecDepth 100000 in
set_option maxHeartbeats 4000000 in
theorem two_1 (a b : te.Vn) (w : World) (ha : a.Rd w) (hb : b.Rd w) : Calls Try.prog 46 #[.int .i64 1, a.val, b.val] w (VP (two 1 a.x.k a.x.n b.x.n) w) := by
  have hW : Below w.heap.size w (((w.alloc (.cells #[.int .i64 a.x.k, .int .i64 a.x.n, .string a.x.s, .slice a.a a.m a.c, .int .i64 a.x.f, .int .i64 a.x.t] 24)).alloc (.cells #[.int .i64 b.x.k, .int .i64 b.x.n, .string b.x.s, .slice b.a b.m b.c, .int .i64 b.x.f, .int .i64 b.x.t] 24)).alloc (.cells #[.int .i64 0, .int .i64 0, .string ⟨#[]⟩, .slice none 0 0, .int .i64 0, .int .i64 0] 24)) := (((Below.refl _ _).alloc (Nat.le_refl _) _).alloc (by simp only [te.size_alloc]; omega) _).alloc (by simp only [te.size_alloc]; omega) _
  have hX : VB (((w.alloc (.cells #[.int .i64 a.x.k, .int .i64 a.x.n, .string a.x.s, .slice a.a a.m a.c, .int .i64 a.x.f, .int .i64 a.x.t] 24)).alloc (.cells #[.int .i64 b.x.k, .int .i64 b.x.n, .string b.x.s, .slice b.a b.m b.c, .int .i64 b.x.f, .int .i64 b.x.t] 24)).alloc (.cells #[.int .i64 0, .int .i64 0, .string ⟨#[]⟩, .slice none 0 0, .int .i64 0, .int .i64 0] 24)) w.heap.size a := ((vb_new w a).below (below_alloc _ _)).below (below_alloc _ _)
  have hZ : VB (((w.alloc (.cells #[.int .i64 a.x.k, .int .i64 a.x.n, .string a.x.s, .slice a.a a.m a.c, .int .i64 a.x.f, .int .i64 a.x.t] 24)).alloc (.cells #[.int .i64 b.x.k, .int .i64 b.x.n, .string b.x.s, .slice b.a b.m b.c, .int .i64 b.x.f, .int .i64 b.x.t] 24)).alloc (.cells #[.int .i64 0, .int .i64 0, .string ⟨#[]⟩, .slice none 0 0, .int .i64 0, .int .i64 0] 24)) (w.heap.size + 1) b := by
    have := (vb_new (w.alloc (.cells #[.int .i64 a.x.k, .int .i64 a.x.n, .string a.x.s, .slice a.a a.m a.c, .int .i64 a.x.f, .int .i64 a.x.t] 24)) b).below (below_alloc _ (.cells #[.int .i64 0, .int .i64 0, .string ⟨#[]⟩, .slice none 0 0, .int .i64 0, .int .i64 0] 24))
    rwa [te.size_alloc] at this
  have hY : VB (((w.alloc (.cells #[.int .i64 a.x.k, .int .i64 a.x.n, .string a.x.s, .slice a.a a.m a.c, .int .i64 a.x.f, .int .i64 a.x.t] 24)).alloc (.cells #[.int .i64 b.x.k, .int .i64 b.x.n, .string b.x.s, .slice b.a b.m b.c, .int .i64 b.x.f, .int .i64 b.x.t] 24)).alloc (.cells #[.int .i64 0, .int .i64 0, .string ⟨#[]⟩, .slice none 0 0, .int .i64 0, .int .i64 0] 24)) (w.heap.size + 1 + 1) te.v0 := by
    have := vb_new0 ((w.alloc (.cells #[.int .i64 a.x.k, .int .i64 a.x.n, .string a.x.s, .slice a.a a.m a.c, .int .i64 a.x.f, .int .i64 a.x.t] 24)).alloc (.cells #[.int .i64 b.x.k, .int .i64 b.x.n, .string b.x.s, .slice b.a b.m b.c, .int .i64 b.x.f, .int .i64 b.x.t] 24))
    rwa [te.size_alloc, te.size_alloc] at this
  have hna : I6 a.x.n := ha.2.n
  have hnb : I6 b.x.n := hb.2.n
  have HT := Lib.hid (fun W => ((tw_tells 1 a.x.n b.x.n hna hnb).1 W).1)
  have HW := Lib.hid hW; have HX := Lib.hid hX; have HY := Lib.hid hY; have HZ := Lib.hid hZ
  obtain ⟨o, ho2⟩ : ∃ o, two 1 a.x.k a.x.n b.x.n = o := ⟨_, rfl⟩
  have HO := Lib.hid ho2
  rw [ho2]
  unfold two at HO
  obtain ⟨x, hx⟩ : ∃ x, (tw 1 a.x.n b.x.n).1 = x := ⟨_, rfl⟩
  obtain ⟨tp, ht⟩ : ∃ tp, (tw 1 a.x.n b.x.n).2.1 = tp := ⟨_, rfl⟩
  rw [hx, ht] at HT HO
  clear hW hX hY hZ ha hb hna hnb ho2 hx ht
  unfold te.Vn.val
  go_enter Try.func46, Try.ntmps46
  go_upto_region 1 with fail
  generalize hWW : (((w.alloc (.cells #[.int .i64 a.x.k, .int .i64 a.x.n, .string a.x.s, .slice a.a a.m a.c, .int .i64 a.x.f, .int .i64 a.x.t] 24)).alloc (.cells #[.int .i64 b.x.k, .int .i64 b.x.n, .string b.x.s, .slice b.a b.m b.c, .int .i64 b.x.f, .int .i64 b.x.t] 24)).alloc (.cells #[.int .i64 0, .int .i64 0, .string ⟨#[]⟩, .slice none 0 0, .int .i64 0, .int .i64 0] 24)) = W at HW HX HY HZ ⊢
  clear hWW
  have p0 := HX.out.cell 0; have p1 := HX.out.cell 1; have q1 := HZ.out.cell 1
  simp at p0 p1 q1
  go_wp2_with fail
  refine (HT.out W).mono ?_
  rintro e w2 ⟨rfl, rfl⟩
  by_cases kk : a.x.k = 6
  · by_cases t0 : tp = 0
    · have ck : (a.x.k == 6) = true := by rw [beq_iff_eq]; omega
      have e0 : (tp == 0) = true := by rw [beq_iff_eq]; omega
      have hv : (if true = true then some (6, x) else none) = o := by rw [← HO.out]; simp [t0, kk]
      have HV := Lib.hid hv
      clear hv kk t0
      go_wp2_with fail
      refine (literal_o 6 x true o HV.out w2).mono ?_
      rintro e w3 ⟨rfl, hb3⟩
      have HY3 := Lib.hid (HY.out.below hb3); have HB3 := Lib.hid (HW.out.trans (hb3.mono HW.out.size))
      clear hb3
      go_wp2_with (refine wpList_store_T rfl _ _ rfl rfl HY3.out (lv o) rfl ?_)
      intro w4 hv4 ho4
      go_wp2
      try simp only [Exit.inBlock, Exit.then]
      refine bodyPost_ret (te.results_cell_tmp rfl _ _ (w.heap.size + 1 + 1) _ _ _ rfl hv4 Try.underlying24 rfl (by kernel_rfl)) rfl ?_
      exact ⟨rfl, HB3.out.trans (ho4.below (by omega))⟩
    · have ck : (a.x.k == 6) = true := by rw [beq_iff_eq]; omega
      have e0 : (tp == 0) = false := by rw [beq_eq_false_iff_ne]; omega
      have hv : (if false = true then some (6, x) else none) = o := by rw [← HO.out]; simp [t0, kk]
      have HV := Lib.hid hv
      clear hv kk t0
      go_wp2_with fail
      refine (literal_o 6 x false o HV.out w2).mono ?_
      rintro e w3 ⟨rfl, hb3⟩
      have HY3 := Lib.hid (HY.out.below hb3); have HB3 := Lib.hid (HW.out.trans (hb3.mono HW.out.size))
      clear hb3
      go_wp2_with (refine wpList_store_T rfl _ _ rfl rfl HY3.out (lv o) rfl ?_)
      intro w4 hv4 ho4
      go_wp2
      try simp only [Exit.inBlock, Exit.then]
      refine bodyPost_ret (te.results_cell_tmp rfl _ _ (w.heap.size + 1 + 1) _ _ _ rfl hv4 Try.underlying24 rfl (by kernel_rfl)) rfl ?_
      exact ⟨rfl, HB3.out.trans (ho4.below (by omega))⟩
  · by_cases t0 : tp = 0
    · have ck : (a.x.k == 6) = false := by rw [beq_eq_false_iff_ne]; omega
      have e0 : (tp == 0) = true := by rw [beq_iff_eq]; omega
      have hv : (if false = true then some (6, x) else none) = o := by rw [← HO.out]; simp [t0, kk]
      have HV := Lib.hid hv
      clear hv kk t0
      go_wp2_with fail
      refine (literal_o 6 x false o HV.out w2).mono ?_
      rintro e w3 ⟨rfl, hb3⟩
      have HY3 := Lib.hid (HY.out.below hb3); have HB3 := Lib.hid (HW.out.trans (hb3.mono HW.out.size))
      clear hb3
      go_wp2_with (refine wpList_store_T rfl _ _ rfl rfl HY3.out (lv o) rfl ?_)
      intro w4 hv4 ho4
      go_wp2
      try simp only [Exit.inBlock, Exit.then]
      refine bodyPost_ret (te.results_cell_tmp rfl _ _ (w.heap.size + 1 + 1) _ _ _ rfl hv4 Try.underlying24 rfl (by kernel_rfl)) rfl ?_
      exact ⟨rfl, HB3.out.trans (ho4.below (by omega))⟩
    · have ck : (a.x.k == 6) = false := by rw [beq_eq_false_iff_ne]; omega
      have e0 : (tp == 0) = false := by rw [beq_eq_false_iff_ne]; omega
      have hv : (if false = true then some (6, x) else none) = o := by rw [← HO.out]; simp [t0, kk]
      have HV := Lib.hid hv
      clear hv kk t0
      go_wp2_with fail
      refine (literal_o 6 x false o HV.out w2).mono ?_
      rintro e w3 ⟨rfl, hb3⟩
      have HY3 := Lib.hid (HY.out.below hb3); have HB3 := Lib.hid (HW.out.trans (hb3.mono HW.out.size))
      clear hb3
      go_wp2_with (refine wpList_store_T rfl _ _ rfl rfl HY3.out (lv o) rfl ?_)
      intro w4 hv4 ho4
      go_wp2
      try simp only [Exit.inBlock, Exit.then]
      refine bodyPost_ret (te.results_cell_tmp rfl _ _ (w.heap.size + 1 + 1) _ _ _ rfl hv4 Try.underlying24 rfl (by kernel_rfl)) rfl ?_
      exact ⟨rfl, HB3.out.trans (ho4.below (by omega))⟩
set_option maxRecDepth 100000 in
set_option maxHeartbeats 4000000 in
theorem two_2 (a b : te.Vn) (w : World) (ha : a.Rd w) (hb : b.Rd w) : Calls Try.prog 46 #[.int .i64 2, a.val, b.val] w (VP (two 2 a.x.k a.x.n b.x.n) w) := by
  have hW : Below w.heap.size w (((w.alloc (.cells #[.int .i64 a.x.k, .int .i64 a.x.n, .string a.x.s, .slice a.a a.m a.c, .int .i64 a.x.f, .int .i64 a.x.t] 24)).alloc (.cells #[.int .i64 b.x.k, .int .i64 b.x.n, .string b.x.s, .slice b.a b.m b.c, .int .i64 b.x.f, .int .i64 b.x.t] 24)).alloc (.cells #[.int .i64 0, .int .i64 0, .string ⟨#[]⟩, .slice none 0 0, .int .i64 0, .int .i64 0] 24)) := (((Below.refl _ _).alloc (Nat.le_refl _) _).alloc (by simp only [te.size_alloc]; omega) _).alloc (by simp only [te.size_alloc]; omega) _
  have hX : VB (((w.alloc (.cells #[.int .i64 a.x.k, .int .i64 a.x.n, .string a.x.s, .slice a.a a.m a.c, .int .i64 a.x.f, .int .i64 a.x.t] 24)).alloc (.cells #[.int .i64 b.x.k, .int .i64 b.x.n, .string b.x.s, .slice b.a b.m b.c, .int .i64 b.x.f, .int .i64 b.x.t] 24)).alloc (.cells #[.int .i64 0, .int .i64 0, .string ⟨#[]⟩, .slice none 0 0, .int .i64 0, .int .i64 0] 24)) w.heap.size a := ((vb_new w a).below (below_alloc _ _)).below (below_alloc _ _)
  have hZ : VB (((w.alloc (.cells #[.int .i64 a.x.k, .int .i64 a.x.n, .string a.x.s, .slice a.a a.m a.c, .int .i64 a.x.f, .int .i64 a.x.t] 24)).alloc (.cells #[.int .i64 b.x.k, .int .i64 b.x.n, .string b.x.s, .slice b.a b.m b.c, .int .i64 b.x.f, .int .i64 b.x.t] 24)).alloc (.cells #[.int .i64 0, .int .i64 0, .string ⟨#[]⟩, .slice none 0 0, .int .i64 0, .int .i64 0] 24)) (w.heap.size + 1) b := by
    have := (vb_new (w.alloc (.cells #[.int .i64 a.x.k, .int .i64 a.x.n, .string a.x.s, .slice a.a a.m a.c, .int .i64 a.x.f, .int .i64 a.x.t] 24)) b).below (below_alloc _ (.cells #[.int .i64 0, .int .i64 0, .string ⟨#[]⟩, .slice none 0 0, .int .i64 0, .int .i64 0] 24))
    rwa [te.size_alloc] at this
  have hY : VB (((w.alloc (.cells #[.int .i64 a.x.k, .int .i64 a.x.n, .string a.x.s, .slice a.a a.m a.c, .int .i64 a.x.f, .int .i64 a.x.t] 24)).alloc (.cells #[.int .i64 b.x.k, .int .i64 b.x.n, .string b.x.s, .slice b.a b.m b.c, .int .i64 b.x.f, .int .i64 b.x.t] 24)).alloc (.cells #[.int .i64 0, .int .i64 0, .string ⟨#[]⟩, .slice none 0 0, .int .i64 0, .int .i64 0] 24)) (w.heap.size + 1 + 1) te.v0 := by
    have := vb_new0 ((w.alloc (.cells #[.int .i64 a.x.k, .int .i64 a.x.n, .string a.x.s, .slice a.a a.m a.c, .int .i64 a.x.f, .int .i64 a.x.t] 24)).alloc (.cells #[.int .i64 b.x.k, .int .i64 b.x.n, .string b.x.s, .slice b.a b.m b.c, .int .i64 b.x.f, .int .i64 b.x.t] 24))
    rwa [te.size_alloc, te.size_alloc] at this
  have hna : I6 a.x.n := ha.2.n
  have hnb : I6 b.x.n := hb.2.n
  have HT := Lib.hid (fun W => ((tw_tells 2 a.x.n b.x.n hna hnb).1 W).1)
  have HW := Lib.hid hW; have HX := Lib.hid hX; have HY := Lib.hid hY; have HZ := Lib.hid hZ
  obtain ⟨o, ho2⟩ : ∃ o, two 2 a.x.k a.x.n b.x.n = o := ⟨_, rfl⟩
  have HO := Lib.hid ho2
  rw [ho2]
  unfold two at HO
  obtain ⟨x, hx⟩ : ∃ x, (tw 2 a.x.n b.x.n).1 = x := ⟨_, rfl⟩
  obtain ⟨tp, ht⟩ : ∃ tp, (tw 2 a.x.n b.x.n).2.1 = tp := ⟨_, rfl⟩
  rw [hx, ht] at HT HO
  clear hW hX hY hZ ha hb hna hnb ho2 hx ht
  unfold te.Vn.val
  go_enter Try.func46, Try.ntmps46
  go_upto_region 1 with fail
  generalize hWW : (((w.alloc (.cells #[.int .i64 a.x.k, .int .i64 a.x.n, .string a.x.s, .slice a.a a.m a.c, .int .i64 a.x.f, .int .i64 a.x.t] 24)).alloc (.cells #[.int .i64 b.x.k, .int .i64 b.x.n, .string b.x.s, .slice b.a b.m b.c, .int .i64 b.x.f, .int .i64 b.x.t] 24)).alloc (.cells #[.int .i64 0, .int .i64 0, .string ⟨#[]⟩, .slice none 0 0, .int .i64 0, .int .i64 0] 24)) = W at HW HX HY HZ ⊢
  clear hWW
  have p0 := HX.out.cell 0; have p1 := HX.out.cell 1; have q1 := HZ.out.cell 1
  simp at p0 p1 q1
  go_wp2_with fail
  refine (HT.out W).mono ?_
  rintro e w2 ⟨rfl, rfl⟩
  by_cases kk : a.x.k = 6
  · by_cases t0 : tp = 0
    · have ck : (a.x.k == 6) = true := by rw [beq_iff_eq]; omega
      have e0 : (tp == 0) = true := by rw [beq_iff_eq]; omega
      have hv : (if true = true then some (6, x) else none) = o := by rw [← HO.out]; simp [t0, kk]
      have HV := Lib.hid hv
      clear hv kk t0
      go_wp2_with fail
      refine (literal_o 6 x true o HV.out w2).mono ?_
      rintro e w3 ⟨rfl, hb3⟩
      have HY3 := Lib.hid (HY.out.below hb3); have HB3 := Lib.hid (HW.out.trans (hb3.mono HW.out.size))
      clear hb3
      go_wp2_with (refine wpList_store_T rfl _ _ rfl rfl HY3.out (lv o) rfl ?_)
      intro w4 hv4 ho4
      go_wp2
      try simp only [Exit.inBlock, Exit.then]
      refine bodyPost_ret (te.results_cell_tmp rfl _ _ (w.heap.size + 1 + 1) _ _ _ rfl hv4 Try.underlying24 rfl (by kernel_rfl)) rfl ?_
      exact ⟨rfl, HB3.out.trans (ho4.below (by omega))⟩
    · have ck : (a.x.k == 6) = true := by rw [beq_iff_eq]; omega
      have e0 : (tp == 0) = false := by rw [beq_eq_false_iff_ne]; omega
      have hv : (if false = true then some (6, x) else none) = o := by rw [← HO.out]; simp [t0, kk]
      have HV := Lib.hid hv
      clear hv kk t0
      go_wp2_with fail
      refine (literal_o 6 x false o HV.out w2).mono ?_
      rintro e w3 ⟨rfl, hb3⟩
      have HY3 := Lib.hid (HY.out.below hb3); have HB3 := Lib.hid (HW.out.trans (hb3.mono HW.out.size))
      clear hb3
      go_wp2_with (refine wpList_store_T rfl _ _ rfl rfl HY3.out (lv o) rfl ?_)
      intro w4 hv4 ho4
      go_wp2
      try simp only [Exit.inBlock, Exit.then]
      refine bodyPost_ret (te.results_cell_tmp rfl _ _ (w.heap.size + 1 + 1) _ _ _ rfl hv4 Try.underlying24 rfl (by kernel_rfl)) rfl ?_
      exact ⟨rfl, HB3.out.trans (ho4.below (by omega))⟩
  · by_cases t0 : tp = 0
    · have ck : (a.x.k == 6) = false := by rw [beq_eq_false_iff_ne]; omega
      have e0 : (tp == 0) = true := by rw [beq_iff_eq]; omega
      have hv : (if false = true then some (6, x) else none) = o := by rw [← HO.out]; simp [t0, kk]
      have HV := Lib.hid hv
      clear hv kk t0
      go_wp2_with fail
      refine (literal_o 6 x false o HV.out w2).mono ?_
      rintro e w3 ⟨rfl, hb3⟩
      have HY3 := Lib.hid (HY.out.below hb3); have HB3 := Lib.hid (HW.out.trans (hb3.mono HW.out.size))
      clear hb3
      go_wp2_with (refine wpList_store_T rfl _ _ rfl rfl HY3.out (lv o) rfl ?_)
      intro w4 hv4 ho4
      go_wp2
      try simp only [Exit.inBlock, Exit.then]
      refine bodyPost_ret (te.results_cell_tmp rfl _ _ (w.heap.size + 1 + 1) _ _ _ rfl hv4 Try.underlying24 rfl (by kernel_rfl)) rfl ?_
      exact ⟨rfl, HB3.out.trans (ho4.below (by omega))⟩
    · have ck : (a.x.k == 6) = false := by rw [beq_eq_false_iff_ne]; omega
      have e0 : (tp == 0) = false := by rw [beq_eq_false_iff_ne]; omega
      have hv : (if false = true then some (6, x) else none) = o := by rw [← HO.out]; simp [t0, kk]
      have HV := Lib.hid hv
      clear hv kk t0
      go_wp2_with fail
      refine (literal_o 6 x false o HV.out w2).mono ?_
      rintro e w3 ⟨rfl, hb3⟩
      have HY3 := Lib.hid (HY.out.below hb3); have HB3 := Lib.hid (HW.out.trans (hb3.mono HW.out.size))
      clear hb3
      go_wp2_with (refine wpList_store_T rfl _ _ rfl rfl HY3.out (lv o) rfl ?_)
      intro w4 hv4 ho4
      go_wp2
      try simp only [Exit.inBlock, Exit.then]
      refine bodyPost_ret (te.results_cell_tmp rfl _ _ (w.heap.size + 1 + 1) _ _ _ rfl hv4 Try.underlying24 rfl (by kernel_rfl)) rfl ?_
      exact ⟨rfl, HB3.out.trans (ho4.below (by omega))⟩
set_option maxRecDepth 100000 in
set_option maxHeartbeats 4000000 in
theorem two_3 (a b : te.Vn) (w : World) (ha : a.Rd w) (hb : b.Rd w) : Calls Try.prog 46 #[.int .i64 3, a.val, b.val] w (VP (two 3 a.x.k a.x.n b.x.n) w) := by
  have hW : Below w.heap.size w (((w.alloc (.cells #[.int .i64 a.x.k, .int .i64 a.x.n, .string a.x.s, .slice a.a a.m a.c, .int .i64 a.x.f, .int .i64 a.x.t] 24)).alloc (.cells #[.int .i64 b.x.k, .int .i64 b.x.n, .string b.x.s, .slice b.a b.m b.c, .int .i64 b.x.f, .int .i64 b.x.t] 24)).alloc (.cells #[.int .i64 0, .int .i64 0, .string ⟨#[]⟩, .slice none 0 0, .int .i64 0, .int .i64 0] 24)) := (((Below.refl _ _).alloc (Nat.le_refl _) _).alloc (by simp only [te.size_alloc]; omega) _).alloc (by simp only [te.size_alloc]; omega) _
  have hX : VB (((w.alloc (.cells #[.int .i64 a.x.k, .int .i64 a.x.n, .string a.x.s, .slice a.a a.m a.c, .int .i64 a.x.f, .int .i64 a.x.t] 24)).alloc (.cells #[.int .i64 b.x.k, .int .i64 b.x.n, .string b.x.s, .slice b.a b.m b.c, .int .i64 b.x.f, .int .i64 b.x.t] 24)).alloc (.cells #[.int .i64 0, .int .i64 0, .string ⟨#[]⟩, .slice none 0 0, .int .i64 0, .int .i64 0] 24)) w.heap.size a := ((vb_new w a).below (below_alloc _ _)).below (below_alloc _ _)
  have hZ : VB (((w.alloc (.cells #[.int .i64 a.x.k, .int .i64 a.x.n, .string a.x.s, .slice a.a a.m a.c, .int .i64 a.x.f, .int .i64 a.x.t] 24)).alloc (.cells #[.int .i64 b.x.k, .int .i64 b.x.n, .string b.x.s, .slice b.a b.m b.c, .int .i64 b.x.f, .int .i64 b.x.t] 24)).alloc (.cells #[.int .i64 0, .int .i64 0, .string ⟨#[]⟩, .slice none 0 0, .int .i64 0, .int .i64 0] 24)) (w.heap.size + 1) b := by
    have := (vb_new (w.alloc (.cells #[.int .i64 a.x.k, .int .i64 a.x.n, .string a.x.s, .slice a.a a.m a.c, .int .i64 a.x.f, .int .i64 a.x.t] 24)) b).below (below_alloc _ (.cells #[.int .i64 0, .int .i64 0, .string ⟨#[]⟩, .slice none 0 0, .int .i64 0, .int .i64 0] 24))
    rwa [te.size_alloc] at this
  have hY : VB (((w.alloc (.cells #[.int .i64 a.x.k, .int .i64 a.x.n, .string a.x.s, .slice a.a a.m a.c, .int .i64 a.x.f, .int .i64 a.x.t] 24)).alloc (.cells #[.int .i64 b.x.k, .int .i64 b.x.n, .string b.x.s, .slice b.a b.m b.c, .int .i64 b.x.f, .int .i64 b.x.t] 24)).alloc (.cells #[.int .i64 0, .int .i64 0, .string ⟨#[]⟩, .slice none 0 0, .int .i64 0, .int .i64 0] 24)) (w.heap.size + 1 + 1) te.v0 := by
    have := vb_new0 ((w.alloc (.cells #[.int .i64 a.x.k, .int .i64 a.x.n, .string a.x.s, .slice a.a a.m a.c, .int .i64 a.x.f, .int .i64 a.x.t] 24)).alloc (.cells #[.int .i64 b.x.k, .int .i64 b.x.n, .string b.x.s, .slice b.a b.m b.c, .int .i64 b.x.f, .int .i64 b.x.t] 24))
    rwa [te.size_alloc, te.size_alloc] at this
  have hna : I6 a.x.n := ha.2.n
  have hnb : I6 b.x.n := hb.2.n
  have HT := Lib.hid (fun W => ((tw_tells 3 a.x.n b.x.n hna hnb).1 W).1)
  have HW := Lib.hid hW; have HX := Lib.hid hX; have HY := Lib.hid hY; have HZ := Lib.hid hZ
  obtain ⟨o, ho2⟩ : ∃ o, two 3 a.x.k a.x.n b.x.n = o := ⟨_, rfl⟩
  have HO := Lib.hid ho2
  rw [ho2]
  unfold two at HO
  obtain ⟨x, hx⟩ : ∃ x, (tw 3 a.x.n b.x.n).1 = x := ⟨_, rfl⟩
  obtain ⟨tp, ht⟩ : ∃ tp, (tw 3 a.x.n b.x.n).2.1 = tp := ⟨_, rfl⟩
  rw [hx, ht] at HT HO
  clear hW hX hY hZ ha hb hna hnb ho2 hx ht
  unfold te.Vn.val
  go_enter Try.func46, Try.ntmps46
  go_upto_region 1 with fail
  generalize hWW : (((w.alloc (.cells #[.int .i64 a.x.k, .int .i64 a.x.n, .string a.x.s, .slice a.a a.m a.c, .int .i64 a.x.f, .int .i64 a.x.t] 24)).alloc (.cells #[.int .i64 b.x.k, .int .i64 b.x.n, .string b.x.s, .slice b.a b.m b.c, .int .i64 b.x.f, .int .i64 b.x.t] 24)).alloc (.cells #[.int .i64 0, .int .i64 0, .string ⟨#[]⟩, .slice none 0 0, .int .i64 0, .int .i64 0] 24)) = W at HW HX HY HZ ⊢
  clear hWW
  have p0 := HX.out.cell 0; have p1 := HX.out.cell 1; have q1 := HZ.out.cell 1
  simp at p0 p1 q1
  go_wp2_with fail
  refine (HT.out W).mono ?_
  rintro e w2 ⟨rfl, rfl⟩
  by_cases t0 : tp = 0
  · have e0 : (tp == 0) = true := by rw [beq_iff_eq]; omega
    have hv : (if true = true then some (6, x) else none) = o := by rw [← HO.out]; simp [t0]
    have HV := Lib.hid hv
    clear hv  t0
    go_wp2_with fail
    refine (literal_o 6 x true o HV.out w2).mono ?_
    rintro e w3 ⟨rfl, hb3⟩
    have HY3 := Lib.hid (HY.out.below hb3); have HB3 := Lib.hid (HW.out.trans (hb3.mono HW.out.size))
    clear hb3
    go_wp2_with (refine wpList_store_T rfl _ _ rfl rfl HY3.out (lv o) rfl ?_)
    intro w4 hv4 ho4
    go_wp2
    try simp only [Exit.inBlock, Exit.then]
    refine bodyPost_ret (te.results_cell_tmp rfl _ _ (w.heap.size + 1 + 1) _ _ _ rfl hv4 Try.underlying24 rfl (by kernel_rfl)) rfl ?_
    exact ⟨rfl, HB3.out.trans (ho4.below (by omega))⟩
  · have e0 : (tp == 0) = false := by rw [beq_eq_false_iff_ne]; omega
    have hv : (if false = true then some (6, x) else none) = o := by rw [← HO.out]; simp [t0]
    have HV := Lib.hid hv
    clear hv  t0
    go_wp2_with fail
    refine (literal_o 6 x false o HV.out w2).mono ?_
    rintro e w3 ⟨rfl, hb3⟩
    have HY3 := Lib.hid (HY.out.below hb3); have HB3 := Lib.hid (HW.out.trans (hb3.mono HW.out.size))
    clear hb3
    go_wp2_with (refine wpList_store_T rfl _ _ rfl rfl HY3.out (lv o) rfl ?_)
    intro w4 hv4 ho4
    go_wp2
    try simp only [Exit.inBlock, Exit.then]
    refine bodyPost_ret (te.results_cell_tmp rfl _ _ (w.heap.size + 1 + 1) _ _ _ rfl hv4 Try.underlying24 rfl (by kernel_rfl)) rfl ?_
    exact ⟨rfl, HB3.out.trans (ho4.below (by omega))⟩
set_option maxRecDepth 100000 in
set_option maxHeartbeats 4000000 in
theorem two_4 (a b : te.Vn) (w : World) (ha : a.Rd w) (hb : b.Rd w) : Calls Try.prog 46 #[.int .i64 4, a.val, b.val] w (VP (two 4 a.x.k a.x.n b.x.n) w) := by
  have hW : Below w.heap.size w (((w.alloc (.cells #[.int .i64 a.x.k, .int .i64 a.x.n, .string a.x.s, .slice a.a a.m a.c, .int .i64 a.x.f, .int .i64 a.x.t] 24)).alloc (.cells #[.int .i64 b.x.k, .int .i64 b.x.n, .string b.x.s, .slice b.a b.m b.c, .int .i64 b.x.f, .int .i64 b.x.t] 24)).alloc (.cells #[.int .i64 0, .int .i64 0, .string ⟨#[]⟩, .slice none 0 0, .int .i64 0, .int .i64 0] 24)) := (((Below.refl _ _).alloc (Nat.le_refl _) _).alloc (by simp only [te.size_alloc]; omega) _).alloc (by simp only [te.size_alloc]; omega) _
  have hX : VB (((w.alloc (.cells #[.int .i64 a.x.k, .int .i64 a.x.n, .string a.x.s, .slice a.a a.m a.c, .int .i64 a.x.f, .int .i64 a.x.t] 24)).alloc (.cells #[.int .i64 b.x.k, .int .i64 b.x.n, .string b.x.s, .slice b.a b.m b.c, .int .i64 b.x.f, .int .i64 b.x.t] 24)).alloc (.cells #[.int .i64 0, .int .i64 0, .string ⟨#[]⟩, .slice none 0 0, .int .i64 0, .int .i64 0] 24)) w.heap.size a := ((vb_new w a).below (below_alloc _ _)).below (below_alloc _ _)
  have hZ : VB (((w.alloc (.cells #[.int .i64 a.x.k, .int .i64 a.x.n, .string a.x.s, .slice a.a a.m a.c, .int .i64 a.x.f, .int .i64 a.x.t] 24)).alloc (.cells #[.int .i64 b.x.k, .int .i64 b.x.n, .string b.x.s, .slice b.a b.m b.c, .int .i64 b.x.f, .int .i64 b.x.t] 24)).alloc (.cells #[.int .i64 0, .int .i64 0, .string ⟨#[]⟩, .slice none 0 0, .int .i64 0, .int .i64 0] 24)) (w.heap.size + 1) b := by
    have := (vb_new (w.alloc (.cells #[.int .i64 a.x.k, .int .i64 a.x.n, .string a.x.s, .slice a.a a.m a.c, .int .i64 a.x.f, .int .i64 a.x.t] 24)) b).below (below_alloc _ (.cells #[.int .i64 0, .int .i64 0, .string ⟨#[]⟩, .slice none 0 0, .int .i64 0, .int .i64 0] 24))
    rwa [te.size_alloc] at this
  have hY : VB (((w.alloc (.cells #[.int .i64 a.x.k, .int .i64 a.x.n, .string a.x.s, .slice a.a a.m a.c, .int .i64 a.x.f, .int .i64 a.x.t] 24)).alloc (.cells #[.int .i64 b.x.k, .int .i64 b.x.n, .string b.x.s, .slice b.a b.m b.c, .int .i64 b.x.f, .int .i64 b.x.t] 24)).alloc (.cells #[.int .i64 0, .int .i64 0, .string ⟨#[]⟩, .slice none 0 0, .int .i64 0, .int .i64 0] 24)) (w.heap.size + 1 + 1) te.v0 := by
    have := vb_new0 ((w.alloc (.cells #[.int .i64 a.x.k, .int .i64 a.x.n, .string a.x.s, .slice a.a a.m a.c, .int .i64 a.x.f, .int .i64 a.x.t] 24)).alloc (.cells #[.int .i64 b.x.k, .int .i64 b.x.n, .string b.x.s, .slice b.a b.m b.c, .int .i64 b.x.f, .int .i64 b.x.t] 24))
    rwa [te.size_alloc, te.size_alloc] at this
  have hna : I6 a.x.n := ha.2.n
  have hnb : I6 b.x.n := hb.2.n
  have HT := Lib.hid (fun W => ((tw_tells 4 a.x.n b.x.n hna hnb).1 W).1)
  have HW := Lib.hid hW; have HX := Lib.hid hX; have HY := Lib.hid hY; have HZ := Lib.hid hZ
  obtain ⟨o, ho2⟩ : ∃ o, two 4 a.x.k a.x.n b.x.n = o := ⟨_, rfl⟩
  have HO := Lib.hid ho2
  rw [ho2]
  unfold two at HO
  obtain ⟨x, hx⟩ : ∃ x, (tw 4 a.x.n b.x.n).1 = x := ⟨_, rfl⟩
  obtain ⟨tp, ht⟩ : ∃ tp, (tw 4 a.x.n b.x.n).2.1 = tp := ⟨_, rfl⟩
  rw [hx, ht] at HT HO
  clear hW hX hY hZ ha hb hna hnb ho2 hx ht
  unfold te.Vn.val
  go_enter Try.func46, Try.ntmps46
  go_upto_region 1 with fail
  generalize hWW : (((w.alloc (.cells #[.int .i64 a.x.k, .int .i64 a.x.n, .string a.x.s, .slice a.a a.m a.c, .int .i64 a.x.f, .int .i64 a.x.t] 24)).alloc (.cells #[.int .i64 b.x.k, .int .i64 b.x.n, .string b.x.s, .slice b.a b.m b.c, .int .i64 b.x.f, .int .i64 b.x.t] 24)).alloc (.cells #[.int .i64 0, .int .i64 0, .string ⟨#[]⟩, .slice none 0 0, .int .i64 0, .int .i64 0] 24)) = W at HW HX HY HZ ⊢
  clear hWW
  have p0 := HX.out.cell 0; have p1 := HX.out.cell 1; have q1 := HZ.out.cell 1
  simp at p0 p1 q1
  go_wp2_with fail
  refine (HT.out W).mono ?_
  rintro e w2 ⟨rfl, rfl⟩
  by_cases t0 : tp = 0
  · have e0 : (tp == 0) = true := by rw [beq_iff_eq]; omega
    have hv : (if true = true then some (6, x) else none) = o := by rw [← HO.out]; simp [t0]
    have HV := Lib.hid hv
    clear hv  t0
    go_wp2_with fail
    refine (literal_o 6 x true o HV.out w2).mono ?_
    rintro e w3 ⟨rfl, hb3⟩
    have HY3 := Lib.hid (HY.out.below hb3); have HB3 := Lib.hid (HW.out.trans (hb3.mono HW.out.size))
    clear hb3
    go_wp2_with (refine wpList_store_T rfl _ _ rfl rfl HY3.out (lv o) rfl ?_)
    intro w4 hv4 ho4
    go_wp2
    try simp only [Exit.inBlock, Exit.then]
    refine bodyPost_ret (te.results_cell_tmp rfl _ _ (w.heap.size + 1 + 1) _ _ _ rfl hv4 Try.underlying24 rfl (by kernel_rfl)) rfl ?_
    exact ⟨rfl, HB3.out.trans (ho4.below (by omega))⟩
  · have e0 : (tp == 0) = false := by rw [beq_eq_false_iff_ne]; omega
    have hv : (if false = true then some (6, x) else none) = o := by rw [← HO.out]; simp [t0]
    have HV := Lib.hid hv
    clear hv  t0
    go_wp2_with fail
    refine (literal_o 6 x false o HV.out w2).mono ?_
    rintro e w3 ⟨rfl, hb3⟩
    have HY3 := Lib.hid (HY.out.below hb3); have HB3 := Lib.hid (HW.out.trans (hb3.mono HW.out.size))
    clear hb3
    go_wp2_with (refine wpList_store_T rfl _ _ rfl rfl HY3.out (lv o) rfl ?_)
    intro w4 hv4 ho4
    go_wp2
    try simp only [Exit.inBlock, Exit.then]
    refine bodyPost_ret (te.results_cell_tmp rfl _ _ (w.heap.size + 1 + 1) _ _ _ rfl hv4 Try.underlying24 rfl (by kernel_rfl)) rfl ?_
    exact ⟨rfl, HB3.out.trans (ho4.below (by omega))⟩
set_option maxRecDepth 100000 in
set_option maxHeartbeats 4000000 in
theorem two_5 (a b : te.Vn) (w : World) (ha : a.Rd w) (hb : b.Rd w) : Calls Try.prog 46 #[.int .i64 5, a.val, b.val] w (VP (two 5 a.x.k a.x.n b.x.n) w) := by
  have hW : Below w.heap.size w (((w.alloc (.cells #[.int .i64 a.x.k, .int .i64 a.x.n, .string a.x.s, .slice a.a a.m a.c, .int .i64 a.x.f, .int .i64 a.x.t] 24)).alloc (.cells #[.int .i64 b.x.k, .int .i64 b.x.n, .string b.x.s, .slice b.a b.m b.c, .int .i64 b.x.f, .int .i64 b.x.t] 24)).alloc (.cells #[.int .i64 0, .int .i64 0, .string ⟨#[]⟩, .slice none 0 0, .int .i64 0, .int .i64 0] 24)) := (((Below.refl _ _).alloc (Nat.le_refl _) _).alloc (by simp only [te.size_alloc]; omega) _).alloc (by simp only [te.size_alloc]; omega) _
  have hX : VB (((w.alloc (.cells #[.int .i64 a.x.k, .int .i64 a.x.n, .string a.x.s, .slice a.a a.m a.c, .int .i64 a.x.f, .int .i64 a.x.t] 24)).alloc (.cells #[.int .i64 b.x.k, .int .i64 b.x.n, .string b.x.s, .slice b.a b.m b.c, .int .i64 b.x.f, .int .i64 b.x.t] 24)).alloc (.cells #[.int .i64 0, .int .i64 0, .string ⟨#[]⟩, .slice none 0 0, .int .i64 0, .int .i64 0] 24)) w.heap.size a := ((vb_new w a).below (below_alloc _ _)).below (below_alloc _ _)
  have hZ : VB (((w.alloc (.cells #[.int .i64 a.x.k, .int .i64 a.x.n, .string a.x.s, .slice a.a a.m a.c, .int .i64 a.x.f, .int .i64 a.x.t] 24)).alloc (.cells #[.int .i64 b.x.k, .int .i64 b.x.n, .string b.x.s, .slice b.a b.m b.c, .int .i64 b.x.f, .int .i64 b.x.t] 24)).alloc (.cells #[.int .i64 0, .int .i64 0, .string ⟨#[]⟩, .slice none 0 0, .int .i64 0, .int .i64 0] 24)) (w.heap.size + 1) b := by
    have := (vb_new (w.alloc (.cells #[.int .i64 a.x.k, .int .i64 a.x.n, .string a.x.s, .slice a.a a.m a.c, .int .i64 a.x.f, .int .i64 a.x.t] 24)) b).below (below_alloc _ (.cells #[.int .i64 0, .int .i64 0, .string ⟨#[]⟩, .slice none 0 0, .int .i64 0, .int .i64 0] 24))
    rwa [te.size_alloc] at this
  have hY : VB (((w.alloc (.cells #[.int .i64 a.x.k, .int .i64 a.x.n, .string a.x.s, .slice a.a a.m a.c, .int .i64 a.x.f, .int .i64 a.x.t] 24)).alloc (.cells #[.int .i64 b.x.k, .int .i64 b.x.n, .string b.x.s, .slice b.a b.m b.c, .int .i64 b.x.f, .int .i64 b.x.t] 24)).alloc (.cells #[.int .i64 0, .int .i64 0, .string ⟨#[]⟩, .slice none 0 0, .int .i64 0, .int .i64 0] 24)) (w.heap.size + 1 + 1) te.v0 := by
    have := vb_new0 ((w.alloc (.cells #[.int .i64 a.x.k, .int .i64 a.x.n, .string a.x.s, .slice a.a a.m a.c, .int .i64 a.x.f, .int .i64 a.x.t] 24)).alloc (.cells #[.int .i64 b.x.k, .int .i64 b.x.n, .string b.x.s, .slice b.a b.m b.c, .int .i64 b.x.f, .int .i64 b.x.t] 24))
    rwa [te.size_alloc, te.size_alloc] at this
  have hna : I6 a.x.n := ha.2.n
  have hnb : I6 b.x.n := hb.2.n
  have HT := Lib.hid (fun W => ((tw_tells 5 a.x.n b.x.n hna hnb).1 W).1)
  have HW := Lib.hid hW; have HX := Lib.hid hX; have HY := Lib.hid hY; have HZ := Lib.hid hZ
  obtain ⟨o, ho2⟩ : ∃ o, two 5 a.x.k a.x.n b.x.n = o := ⟨_, rfl⟩
  have HO := Lib.hid ho2
  rw [ho2]
  unfold two at HO
  obtain ⟨x, hx⟩ : ∃ x, (tw 5 a.x.n b.x.n).1 = x := ⟨_, rfl⟩
  obtain ⟨tp, ht⟩ : ∃ tp, (tw 5 a.x.n b.x.n).2.1 = tp := ⟨_, rfl⟩
  rw [hx, ht] at HT HO
  clear hW hX hY hZ ha hb hna hnb ho2 hx ht
  unfold te.Vn.val
  go_enter Try.func46, Try.ntmps46
  go_upto_region 1 with fail
  generalize hWW : (((w.alloc (.cells #[.int .i64 a.x.k, .int .i64 a.x.n, .string a.x.s, .slice a.a a.m a.c, .int .i64 a.x.f, .int .i64 a.x.t] 24)).alloc (.cells #[.int .i64 b.x.k, .int .i64 b.x.n, .string b.x.s, .slice b.a b.m b.c, .int .i64 b.x.f, .int .i64 b.x.t] 24)).alloc (.cells #[.int .i64 0, .int .i64 0, .string ⟨#[]⟩, .slice none 0 0, .int .i64 0, .int .i64 0] 24)) = W at HW HX HY HZ ⊢
  clear hWW
  have p0 := HX.out.cell 0; have p1 := HX.out.cell 1; have q1 := HZ.out.cell 1
  simp at p0 p1 q1
  go_wp2_with fail
  refine (HT.out W).mono ?_
  rintro e w2 ⟨rfl, rfl⟩
  by_cases kk : a.x.k = 5
  · by_cases t0 : tp = 0
    · have ck : (a.x.k == 5) = true := by rw [beq_iff_eq]; omega
      have e0 : (tp == 0) = true := by rw [beq_iff_eq]; omega
      have hv : (if true = true then some (6, x) else none) = o := by rw [← HO.out]; simp [t0, kk]
      have HV := Lib.hid hv
      clear hv kk t0
      go_wp2_with fail
      refine (literal_o 6 x true o HV.out w2).mono ?_
      rintro e w3 ⟨rfl, hb3⟩
      have HY3 := Lib.hid (HY.out.below hb3); have HB3 := Lib.hid (HW.out.trans (hb3.mono HW.out.size))
      clear hb3
      go_wp2_with (refine wpList_store_T rfl _ _ rfl rfl HY3.out (lv o) rfl ?_)
      intro w4 hv4 ho4
      go_wp2
      try simp only [Exit.inBlock, Exit.then]
      refine bodyPost_ret (te.results_cell_tmp rfl _ _ (w.heap.size + 1 + 1) _ _ _ rfl hv4 Try.underlying24 rfl (by kernel_rfl)) rfl ?_
      exact ⟨rfl, HB3.out.trans (ho4.below (by omega))⟩
    · have ck : (a.x.k == 5) = true := by rw [beq_iff_eq]; omega
      have e0 : (tp == 0) = false := by rw [beq_eq_false_iff_ne]; omega
      have hv : (if false = true then some (6, x) else none) = o := by rw [← HO.out]; simp [t0, kk]
      have HV := Lib.hid hv
      clear hv kk t0
      go_wp2_with fail
      refine (literal_o 6 x false o HV.out w2).mono ?_
      rintro e w3 ⟨rfl, hb3⟩
      have HY3 := Lib.hid (HY.out.below hb3); have HB3 := Lib.hid (HW.out.trans (hb3.mono HW.out.size))
      clear hb3
      go_wp2_with (refine wpList_store_T rfl _ _ rfl rfl HY3.out (lv o) rfl ?_)
      intro w4 hv4 ho4
      go_wp2
      try simp only [Exit.inBlock, Exit.then]
      refine bodyPost_ret (te.results_cell_tmp rfl _ _ (w.heap.size + 1 + 1) _ _ _ rfl hv4 Try.underlying24 rfl (by kernel_rfl)) rfl ?_
      exact ⟨rfl, HB3.out.trans (ho4.below (by omega))⟩
  · by_cases t0 : tp = 0
    · have ck : (a.x.k == 5) = false := by rw [beq_eq_false_iff_ne]; omega
      have e0 : (tp == 0) = true := by rw [beq_iff_eq]; omega
      have hv : (if false = true then some (6, x) else none) = o := by rw [← HO.out]; simp [t0, kk]
      have HV := Lib.hid hv
      clear hv kk t0
      go_wp2_with fail
      refine (literal_o 6 x false o HV.out w2).mono ?_
      rintro e w3 ⟨rfl, hb3⟩
      have HY3 := Lib.hid (HY.out.below hb3); have HB3 := Lib.hid (HW.out.trans (hb3.mono HW.out.size))
      clear hb3
      go_wp2_with (refine wpList_store_T rfl _ _ rfl rfl HY3.out (lv o) rfl ?_)
      intro w4 hv4 ho4
      go_wp2
      try simp only [Exit.inBlock, Exit.then]
      refine bodyPost_ret (te.results_cell_tmp rfl _ _ (w.heap.size + 1 + 1) _ _ _ rfl hv4 Try.underlying24 rfl (by kernel_rfl)) rfl ?_
      exact ⟨rfl, HB3.out.trans (ho4.below (by omega))⟩
    · have ck : (a.x.k == 5) = false := by rw [beq_eq_false_iff_ne]; omega
      have e0 : (tp == 0) = false := by rw [beq_eq_false_iff_ne]; omega
      have hv : (if false = true then some (6, x) else none) = o := by rw [← HO.out]; simp [t0, kk]
      have HV := Lib.hid hv
      clear hv kk t0
      go_wp2_with fail
      refine (literal_o 6 x false o HV.out w2).mono ?_
      rintro e w3 ⟨rfl, hb3⟩
      have HY3 := Lib.hid (HY.out.below hb3); have HB3 := Lib.hid (HW.out.trans (hb3.mono HW.out.size))
      clear hb3
      go_wp2_with (refine wpList_store_T rfl _ _ rfl rfl HY3.out (lv o) rfl ?_)
      intro w4 hv4 ho4
      go_wp2
      try simp only [Exit.inBlock, Exit.then]
      refine bodyPost_ret (te.results_cell_tmp rfl _ _ (w.heap.size + 1 + 1) _ _ _ rfl hv4 Try.underlying24 rfl (by kernel_rfl)) rfl ?_
      exact ⟨rfl, HB3.out.trans (ho4.below (by omega))⟩
set_option maxRecDepth 100000 in
set_option maxHeartbeats 4000000 in
theorem two_6 (a b : te.Vn) (w : World) (ha : a.Rd w) (hb : b.Rd w) : Calls Try.prog 46 #[.int .i64 6, a.val, b.val] w (VP (two 6 a.x.k a.x.n b.x.n) w) := by
  have hW : Below w.heap.size w (((w.alloc (.cells #[.int .i64 a.x.k, .int .i64 a.x.n, .string a.x.s, .slice a.a a.m a.c, .int .i64 a.x.f, .int .i64 a.x.t] 24)).alloc (.cells #[.int .i64 b.x.k, .int .i64 b.x.n, .string b.x.s, .slice b.a b.m b.c, .int .i64 b.x.f, .int .i64 b.x.t] 24)).alloc (.cells #[.int .i64 0, .int .i64 0, .string ⟨#[]⟩, .slice none 0 0, .int .i64 0, .int .i64 0] 24)) := (((Below.refl _ _).alloc (Nat.le_refl _) _).alloc (by simp only [te.size_alloc]; omega) _).alloc (by simp only [te.size_alloc]; omega) _
  have hX : VB (((w.alloc (.cells #[.int .i64 a.x.k, .int .i64 a.x.n, .string a.x.s, .slice a.a a.m a.c, .int .i64 a.x.f, .int .i64 a.x.t] 24)).alloc (.cells #[.int .i64 b.x.k, .int .i64 b.x.n, .string b.x.s, .slice b.a b.m b.c, .int .i64 b.x.f, .int .i64 b.x.t] 24)).alloc (.cells #[.int .i64 0, .int .i64 0, .string ⟨#[]⟩, .slice none 0 0, .int .i64 0, .int .i64 0] 24)) w.heap.size a := ((vb_new w a).below (below_alloc _ _)).below (below_alloc _ _)
  have hZ : VB (((w.alloc (.cells #[.int .i64 a.x.k, .int .i64 a.x.n, .string a.x.s, .slice a.a a.m a.c, .int .i64 a.x.f, .int .i64 a.x.t] 24)).alloc (.cells #[.int .i64 b.x.k, .int .i64 b.x.n, .string b.x.s, .slice b.a b.m b.c, .int .i64 b.x.f, .int .i64 b.x.t] 24)).alloc (.cells #[.int .i64 0, .int .i64 0, .string ⟨#[]⟩, .slice none 0 0, .int .i64 0, .int .i64 0] 24)) (w.heap.size + 1) b := by
    have := (vb_new (w.alloc (.cells #[.int .i64 a.x.k, .int .i64 a.x.n, .string a.x.s, .slice a.a a.m a.c, .int .i64 a.x.f, .int .i64 a.x.t] 24)) b).below (below_alloc _ (.cells #[.int .i64 0, .int .i64 0, .string ⟨#[]⟩, .slice none 0 0, .int .i64 0, .int .i64 0] 24))
    rwa [te.size_alloc] at this
  have hY : VB (((w.alloc (.cells #[.int .i64 a.x.k, .int .i64 a.x.n, .string a.x.s, .slice a.a a.m a.c, .int .i64 a.x.f, .int .i64 a.x.t] 24)).alloc (.cells #[.int .i64 b.x.k, .int .i64 b.x.n, .string b.x.s, .slice b.a b.m b.c, .int .i64 b.x.f, .int .i64 b.x.t] 24)).alloc (.cells #[.int .i64 0, .int .i64 0, .string ⟨#[]⟩, .slice none 0 0, .int .i64 0, .int .i64 0] 24)) (w.heap.size + 1 + 1) te.v0 := by
    have := vb_new0 ((w.alloc (.cells #[.int .i64 a.x.k, .int .i64 a.x.n, .string a.x.s, .slice a.a a.m a.c, .int .i64 a.x.f, .int .i64 a.x.t] 24)).alloc (.cells #[.int .i64 b.x.k, .int .i64 b.x.n, .string b.x.s, .slice b.a b.m b.c, .int .i64 b.x.f, .int .i64 b.x.t] 24))
    rwa [te.size_alloc, te.size_alloc] at this
  have hna : I6 a.x.n := ha.2.n
  have hnb : I6 b.x.n := hb.2.n
  have HT := Lib.hid (fun W => ((tw_tells 6 a.x.n b.x.n hna hnb).1 W).1)
  have HW := Lib.hid hW; have HX := Lib.hid hX; have HY := Lib.hid hY; have HZ := Lib.hid hZ
  obtain ⟨o, ho2⟩ : ∃ o, two 6 a.x.k a.x.n b.x.n = o := ⟨_, rfl⟩
  have HO := Lib.hid ho2
  rw [ho2]
  unfold two at HO
  obtain ⟨x, hx⟩ : ∃ x, (tw 6 a.x.n b.x.n).1 = x := ⟨_, rfl⟩
  obtain ⟨tp, ht⟩ : ∃ tp, (tw 6 a.x.n b.x.n).2.1 = tp := ⟨_, rfl⟩
  rw [hx, ht] at HT HO
  clear hW hX hY hZ ha hb hna hnb ho2 hx ht
  unfold te.Vn.val
  go_enter Try.func46, Try.ntmps46
  go_upto_region 1 with fail
  generalize hWW : (((w.alloc (.cells #[.int .i64 a.x.k, .int .i64 a.x.n, .string a.x.s, .slice a.a a.m a.c, .int .i64 a.x.f, .int .i64 a.x.t] 24)).alloc (.cells #[.int .i64 b.x.k, .int .i64 b.x.n, .string b.x.s, .slice b.a b.m b.c, .int .i64 b.x.f, .int .i64 b.x.t] 24)).alloc (.cells #[.int .i64 0, .int .i64 0, .string ⟨#[]⟩, .slice none 0 0, .int .i64 0, .int .i64 0] 24)) = W at HW HX HY HZ ⊢
  clear hWW
  have p0 := HX.out.cell 0; have p1 := HX.out.cell 1; have q1 := HZ.out.cell 1
  simp at p0 p1 q1
  go_wp2_with fail
  refine (HT.out W).mono ?_
  rintro e w2 ⟨rfl, rfl⟩
  by_cases kk : a.x.k = 5
  · by_cases t0 : tp = 0
    · have ck : (a.x.k == 5) = true := by rw [beq_iff_eq]; omega
      have e0 : (tp == 0) = true := by rw [beq_iff_eq]; omega
      have hv : (if true = true then some (6, x) else none) = o := by rw [← HO.out]; simp [t0, kk]
      have HV := Lib.hid hv
      clear hv kk t0
      go_wp2_with fail
      refine (literal_o 6 x true o HV.out w2).mono ?_
      rintro e w3 ⟨rfl, hb3⟩
      have HY3 := Lib.hid (HY.out.below hb3); have HB3 := Lib.hid (HW.out.trans (hb3.mono HW.out.size))
      clear hb3
      go_wp2_with (refine wpList_store_T rfl _ _ rfl rfl HY3.out (lv o) rfl ?_)
      intro w4 hv4 ho4
      go_wp2
      try simp only [Exit.inBlock, Exit.then]
      refine bodyPost_ret (te.results_cell_tmp rfl _ _ (w.heap.size + 1 + 1) _ _ _ rfl hv4 Try.underlying24 rfl (by kernel_rfl)) rfl ?_
      exact ⟨rfl, HB3.out.trans (ho4.below (by omega))⟩
    · have ck : (a.x.k == 5) = true := by rw [beq_iff_eq]; omega
      have e0 : (tp == 0) = false := by rw [beq_eq_false_iff_ne]; omega
      have hv : (if false = true then some (6, x) else none) = o := by rw [← HO.out]; simp [t0, kk]
      have HV := Lib.hid hv
      clear hv kk t0
      go_wp2_with fail
      refine (literal_o 6 x false o HV.out w2).mono ?_
      rintro e w3 ⟨rfl, hb3⟩
      have HY3 := Lib.hid (HY.out.below hb3); have HB3 := Lib.hid (HW.out.trans (hb3.mono HW.out.size))
      clear hb3
      go_wp2_with (refine wpList_store_T rfl _ _ rfl rfl HY3.out (lv o) rfl ?_)
      intro w4 hv4 ho4
      go_wp2
      try simp only [Exit.inBlock, Exit.then]
      refine bodyPost_ret (te.results_cell_tmp rfl _ _ (w.heap.size + 1 + 1) _ _ _ rfl hv4 Try.underlying24 rfl (by kernel_rfl)) rfl ?_
      exact ⟨rfl, HB3.out.trans (ho4.below (by omega))⟩
  · by_cases t0 : tp = 0
    · have ck : (a.x.k == 5) = false := by rw [beq_eq_false_iff_ne]; omega
      have e0 : (tp == 0) = true := by rw [beq_iff_eq]; omega
      have hv : (if false = true then some (6, x) else none) = o := by rw [← HO.out]; simp [t0, kk]
      have HV := Lib.hid hv
      clear hv kk t0
      go_wp2_with fail
      refine (literal_o 6 x false o HV.out w2).mono ?_
      rintro e w3 ⟨rfl, hb3⟩
      have HY3 := Lib.hid (HY.out.below hb3); have HB3 := Lib.hid (HW.out.trans (hb3.mono HW.out.size))
      clear hb3
      go_wp2_with (refine wpList_store_T rfl _ _ rfl rfl HY3.out (lv o) rfl ?_)
      intro w4 hv4 ho4
      go_wp2
      try simp only [Exit.inBlock, Exit.then]
      refine bodyPost_ret (te.results_cell_tmp rfl _ _ (w.heap.size + 1 + 1) _ _ _ rfl hv4 Try.underlying24 rfl (by kernel_rfl)) rfl ?_
      exact ⟨rfl, HB3.out.trans (ho4.below (by omega))⟩
    · have ck : (a.x.k == 5) = false := by rw [beq_eq_false_iff_ne]; omega
      have e0 : (tp == 0) = false := by rw [beq_eq_false_iff_ne]; omega
      have hv : (if false = true then some (6, x) else none) = o := by rw [← HO.out]; simp [t0, kk]
      have HV := Lib.hid hv
      clear hv kk t0
      go_wp2_with fail
      refine (literal_o 6 x false o HV.out w2).mono ?_
      rintro e w3 ⟨rfl, hb3⟩
      have HY3 := Lib.hid (HY.out.below hb3); have HB3 := Lib.hid (HW.out.trans (hb3.mono HW.out.size))
      clear hb3
      go_wp2_with (refine wpList_store_T rfl _ _ rfl rfl HY3.out (lv o) rfl ?_)
      intro w4 hv4 ho4
      go_wp2
      try simp only [Exit.inBlock, Exit.then]
      refine bodyPost_ret (te.results_cell_tmp rfl _ _ (w.heap.size + 1 + 1) _ _ _ rfl hv4 Try.underlying24 rfl (by kernel_rfl)) rfl ?_
      exact ⟨rfl, HB3.out.trans (ho4.below (by omega))⟩
set_option maxRecDepth 100000 in
set_option maxHeartbeats 4000000 in
theorem two_7 (a b : te.Vn) (w : World) (ha : a.Rd w) (hb : b.Rd w) : Calls Try.prog 46 #[.int .i64 7, a.val, b.val] w (VP (two 7 a.x.k a.x.n b.x.n) w) := by
  have hW : Below w.heap.size w (((w.alloc (.cells #[.int .i64 a.x.k, .int .i64 a.x.n, .string a.x.s, .slice a.a a.m a.c, .int .i64 a.x.f, .int .i64 a.x.t] 24)).alloc (.cells #[.int .i64 b.x.k, .int .i64 b.x.n, .string b.x.s, .slice b.a b.m b.c, .int .i64 b.x.f, .int .i64 b.x.t] 24)).alloc (.cells #[.int .i64 0, .int .i64 0, .string ⟨#[]⟩, .slice none 0 0, .int .i64 0, .int .i64 0] 24)) := (((Below.refl _ _).alloc (Nat.le_refl _) _).alloc (by simp only [te.size_alloc]; omega) _).alloc (by simp only [te.size_alloc]; omega) _
  have hX : VB (((w.alloc (.cells #[.int .i64 a.x.k, .int .i64 a.x.n, .string a.x.s, .slice a.a a.m a.c, .int .i64 a.x.f, .int .i64 a.x.t] 24)).alloc (.cells #[.int .i64 b.x.k, .int .i64 b.x.n, .string b.x.s, .slice b.a b.m b.c, .int .i64 b.x.f, .int .i64 b.x.t] 24)).alloc (.cells #[.int .i64 0, .int .i64 0, .string ⟨#[]⟩, .slice none 0 0, .int .i64 0, .int .i64 0] 24)) w.heap.size a := ((vb_new w a).below (below_alloc _ _)).below (below_alloc _ _)
  have hZ : VB (((w.alloc (.cells #[.int .i64 a.x.k, .int .i64 a.x.n, .string a.x.s, .slice a.a a.m a.c, .int .i64 a.x.f, .int .i64 a.x.t] 24)).alloc (.cells #[.int .i64 b.x.k, .int .i64 b.x.n, .string b.x.s, .slice b.a b.m b.c, .int .i64 b.x.f, .int .i64 b.x.t] 24)).alloc (.cells #[.int .i64 0, .int .i64 0, .string ⟨#[]⟩, .slice none 0 0, .int .i64 0, .int .i64 0] 24)) (w.heap.size + 1) b := by
    have := (vb_new (w.alloc (.cells #[.int .i64 a.x.k, .int .i64 a.x.n, .string a.x.s, .slice a.a a.m a.c, .int .i64 a.x.f, .int .i64 a.x.t] 24)) b).below (below_alloc _ (.cells #[.int .i64 0, .int .i64 0, .string ⟨#[]⟩, .slice none 0 0, .int .i64 0, .int .i64 0] 24))
    rwa [te.size_alloc] at this
  have hY : VB (((w.alloc (.cells #[.int .i64 a.x.k, .int .i64 a.x.n, .string a.x.s, .slice a.a a.m a.c, .int .i64 a.x.f, .int .i64 a.x.t] 24)).alloc (.cells #[.int .i64 b.x.k, .int .i64 b.x.n, .string b.x.s, .slice b.a b.m b.c, .int .i64 b.x.f, .int .i64 b.x.t] 24)).alloc (.cells #[.int .i64 0, .int .i64 0, .string ⟨#[]⟩, .slice none 0 0, .int .i64 0, .int .i64 0] 24)) (w.heap.size + 1 + 1) te.v0 := by
    have := vb_new0 ((w.alloc (.cells #[.int .i64 a.x.k, .int .i64 a.x.n, .string a.x.s, .slice a.a a.m a.c, .int .i64 a.x.f, .int .i64 a.x.t] 24)).alloc (.cells #[.int .i64 b.x.k, .int .i64 b.x.n, .string b.x.s, .slice b.a b.m b.c, .int .i64 b.x.f, .int .i64 b.x.t] 24))
    rwa [te.size_alloc, te.size_alloc] at this
  have hna : I6 a.x.n := ha.2.n
  have hnb : I6 b.x.n := hb.2.n
  have HT := Lib.hid (fun W => ((tw_tells 7 a.x.n b.x.n hna hnb).1 W).1)
  have HW := Lib.hid hW; have HX := Lib.hid hX; have HY := Lib.hid hY; have HZ := Lib.hid hZ
  obtain ⟨o, ho2⟩ : ∃ o, two 7 a.x.k a.x.n b.x.n = o := ⟨_, rfl⟩
  have HO := Lib.hid ho2
  rw [ho2]
  unfold two at HO
  obtain ⟨x, hx⟩ : ∃ x, (tw 7 a.x.n b.x.n).1 = x := ⟨_, rfl⟩
  obtain ⟨tp, ht⟩ : ∃ tp, (tw 7 a.x.n b.x.n).2.1 = tp := ⟨_, rfl⟩
  rw [hx, ht] at HT HO
  clear hW hX hY hZ ha hb hna hnb ho2 hx ht
  unfold te.Vn.val
  go_enter Try.func46, Try.ntmps46
  go_upto_region 1 with fail
  generalize hWW : (((w.alloc (.cells #[.int .i64 a.x.k, .int .i64 a.x.n, .string a.x.s, .slice a.a a.m a.c, .int .i64 a.x.f, .int .i64 a.x.t] 24)).alloc (.cells #[.int .i64 b.x.k, .int .i64 b.x.n, .string b.x.s, .slice b.a b.m b.c, .int .i64 b.x.f, .int .i64 b.x.t] 24)).alloc (.cells #[.int .i64 0, .int .i64 0, .string ⟨#[]⟩, .slice none 0 0, .int .i64 0, .int .i64 0] 24)) = W at HW HX HY HZ ⊢
  clear hWW
  have p0 := HX.out.cell 0; have p1 := HX.out.cell 1; have q1 := HZ.out.cell 1
  simp at p0 p1 q1
  go_wp2_with fail
  refine (HT.out W).mono ?_
  rintro e w2 ⟨rfl, rfl⟩
  by_cases kk : a.x.k = 5
  · by_cases t0 : tp = 0
    · have ck : (a.x.k == 5) = true := by rw [beq_iff_eq]; omega
      have e0 : (tp == 0) = true := by rw [beq_iff_eq]; omega
      have hv : (if true = true then some (6, x) else none) = o := by rw [← HO.out]; simp [t0, kk]
      have HV := Lib.hid hv
      clear hv kk t0
      go_wp2_with fail
      refine (literal_o 6 x true o HV.out w2).mono ?_
      rintro e w3 ⟨rfl, hb3⟩
      have HY3 := Lib.hid (HY.out.below hb3); have HB3 := Lib.hid (HW.out.trans (hb3.mono HW.out.size))
      clear hb3
      go_wp2_with (refine wpList_store_T rfl _ _ rfl rfl HY3.out (lv o) rfl ?_)
      intro w4 hv4 ho4
      go_wp2
      try simp only [Exit.inBlock, Exit.then]
      refine bodyPost_ret (te.results_cell_tmp rfl _ _ (w.heap.size + 1 + 1) _ _ _ rfl hv4 Try.underlying24 rfl (by kernel_rfl)) rfl ?_
      exact ⟨rfl, HB3.out.trans (ho4.below (by omega))⟩
    · have ck : (a.x.k == 5) = true := by rw [beq_iff_eq]; omega
      have e0 : (tp == 0) = false := by rw [beq_eq_false_iff_ne]; omega
      have hv : (if false = true then some (6, x) else none) = o := by rw [← HO.out]; simp [t0, kk]
      have HV := Lib.hid hv
      clear hv kk t0
      go_wp2_with fail
      refine (literal_o 6 x false o HV.out w2).mono ?_
      rintro e w3 ⟨rfl, hb3⟩
      have HY3 := Lib.hid (HY.out.below hb3); have HB3 := Lib.hid (HW.out.trans (hb3.mono HW.out.size))
      clear hb3
      go_wp2_with (refine wpList_store_T rfl _ _ rfl rfl HY3.out (lv o) rfl ?_)
      intro w4 hv4 ho4
      go_wp2
      try simp only [Exit.inBlock, Exit.then]
      refine bodyPost_ret (te.results_cell_tmp rfl _ _ (w.heap.size + 1 + 1) _ _ _ rfl hv4 Try.underlying24 rfl (by kernel_rfl)) rfl ?_
      exact ⟨rfl, HB3.out.trans (ho4.below (by omega))⟩
  · by_cases t0 : tp = 0
    · have ck : (a.x.k == 5) = false := by rw [beq_eq_false_iff_ne]; omega
      have e0 : (tp == 0) = true := by rw [beq_iff_eq]; omega
      have hv : (if false = true then some (6, x) else none) = o := by rw [← HO.out]; simp [t0, kk]
      have HV := Lib.hid hv
      clear hv kk t0
      go_wp2_with fail
      refine (literal_o 6 x false o HV.out w2).mono ?_
      rintro e w3 ⟨rfl, hb3⟩
      have HY3 := Lib.hid (HY.out.below hb3); have HB3 := Lib.hid (HW.out.trans (hb3.mono HW.out.size))
      clear hb3
      go_wp2_with (refine wpList_store_T rfl _ _ rfl rfl HY3.out (lv o) rfl ?_)
      intro w4 hv4 ho4
      go_wp2
      try simp only [Exit.inBlock, Exit.then]
      refine bodyPost_ret (te.results_cell_tmp rfl _ _ (w.heap.size + 1 + 1) _ _ _ rfl hv4 Try.underlying24 rfl (by kernel_rfl)) rfl ?_
      exact ⟨rfl, HB3.out.trans (ho4.below (by omega))⟩
    · have ck : (a.x.k == 5) = false := by rw [beq_eq_false_iff_ne]; omega
      have e0 : (tp == 0) = false := by rw [beq_eq_false_iff_ne]; omega
      have hv : (if false = true then some (6, x) else none) = o := by rw [← HO.out]; simp [t0, kk]
      have HV := Lib.hid hv
      clear hv kk t0
      go_wp2_with fail
      refine (literal_o 6 x false o HV.out w2).mono ?_
      rintro e w3 ⟨rfl, hb3⟩
      have HY3 := Lib.hid (HY.out.below hb3); have HB3 := Lib.hid (HW.out.trans (hb3.mono HW.out.size))
      clear hb3
      go_wp2_with (refine wpList_store_T rfl _ _ rfl rfl HY3.out (lv o) rfl ?_)
      intro w4 hv4 ho4
      go_wp2
      try simp only [Exit.inBlock, Exit.then]
      refine bodyPost_ret (te.results_cell_tmp rfl _ _ (w.heap.size + 1 + 1) _ _ _ rfl hv4 Try.underlying24 rfl (by kernel_rfl)) rfl ?_
      exact ⟨rfl, HB3.out.trans (ho4.below (by omega))⟩
set_option maxRecDepth 100000 in
set_option maxHeartbeats 4000000 in
theorem two_8 (a b : te.Vn) (w : World) (ha : a.Rd w) (hb : b.Rd w) : Calls Try.prog 46 #[.int .i64 8, a.val, b.val] w (VP (two 8 a.x.k a.x.n b.x.n) w) := by
  have hW : Below w.heap.size w (((w.alloc (.cells #[.int .i64 a.x.k, .int .i64 a.x.n, .string a.x.s, .slice a.a a.m a.c, .int .i64 a.x.f, .int .i64 a.x.t] 24)).alloc (.cells #[.int .i64 b.x.k, .int .i64 b.x.n, .string b.x.s, .slice b.a b.m b.c, .int .i64 b.x.f, .int .i64 b.x.t] 24)).alloc (.cells #[.int .i64 0, .int .i64 0, .string ⟨#[]⟩, .slice none 0 0, .int .i64 0, .int .i64 0] 24)) := (((Below.refl _ _).alloc (Nat.le_refl _) _).alloc (by simp only [te.size_alloc]; omega) _).alloc (by simp only [te.size_alloc]; omega) _
  have hX : VB (((w.alloc (.cells #[.int .i64 a.x.k, .int .i64 a.x.n, .string a.x.s, .slice a.a a.m a.c, .int .i64 a.x.f, .int .i64 a.x.t] 24)).alloc (.cells #[.int .i64 b.x.k, .int .i64 b.x.n, .string b.x.s, .slice b.a b.m b.c, .int .i64 b.x.f, .int .i64 b.x.t] 24)).alloc (.cells #[.int .i64 0, .int .i64 0, .string ⟨#[]⟩, .slice none 0 0, .int .i64 0, .int .i64 0] 24)) w.heap.size a := ((vb_new w a).below (below_alloc _ _)).below (below_alloc _ _)
  have hZ : VB (((w.alloc (.cells #[.int .i64 a.x.k, .int .i64 a.x.n, .string a.x.s, .slice a.a a.m a.c, .int .i64 a.x.f, .int .i64 a.x.t] 24)).alloc (.cells #[.int .i64 b.x.k, .int .i64 b.x.n, .string b.x.s, .slice b.a b.m b.c, .int .i64 b.x.f, .int .i64 b.x.t] 24)).alloc (.cells #[.int .i64 0, .int .i64 0, .string ⟨#[]⟩, .slice none 0 0, .int .i64 0, .int .i64 0] 24)) (w.heap.size + 1) b := by
    have := (vb_new (w.alloc (.cells #[.int .i64 a.x.k, .int .i64 a.x.n, .string a.x.s, .slice a.a a.m a.c, .int .i64 a.x.f, .int .i64 a.x.t] 24)) b).below (below_alloc _ (.cells #[.int .i64 0, .int .i64 0, .string ⟨#[]⟩, .slice none 0 0, .int .i64 0, .int .i64 0] 24))
    rwa [te.size_alloc] at this
  have hY : VB (((w.alloc (.cells #[.int .i64 a.x.k, .int .i64 a.x.n, .string a.x.s, .slice a.a a.m a.c, .int .i64 a.x.f, .int .i64 a.x.t] 24)).alloc (.cells #[.int .i64 b.x.k, .int .i64 b.x.n, .string b.x.s, .slice b.a b.m b.c, .int .i64 b.x.f, .int .i64 b.x.t] 24)).alloc (.cells #[.int .i64 0, .int .i64 0, .string ⟨#[]⟩, .slice none 0 0, .int .i64 0, .int .i64 0] 24)) (w.heap.size + 1 + 1) te.v0 := by
    have := vb_new0 ((w.alloc (.cells #[.int .i64 a.x.k, .int .i64 a.x.n, .string a.x.s, .slice a.a a.m a.c, .int .i64 a.x.f, .int .i64 a.x.t] 24)).alloc (.cells #[.int .i64 b.x.k, .int .i64 b.x.n, .string b.x.s, .slice b.a b.m b.c, .int .i64 b.x.f, .int .i64 b.x.t] 24))
    rwa [te.size_alloc, te.size_alloc] at this
  have hna : I6 a.x.n := ha.2.n
  have hnb : I6 b.x.n := hb.2.n
  have HT := Lib.hid (fun W => ((tw_tells 8 a.x.n b.x.n hna hnb).1 W).1)
  have HW := Lib.hid hW; have HX := Lib.hid hX; have HY := Lib.hid hY; have HZ := Lib.hid hZ
  obtain ⟨o, ho2⟩ : ∃ o, two 8 a.x.k a.x.n b.x.n = o := ⟨_, rfl⟩
  have HO := Lib.hid ho2
  rw [ho2]
  unfold two at HO
  obtain ⟨x, hx⟩ : ∃ x, (tw 8 a.x.n b.x.n).1 = x := ⟨_, rfl⟩
  obtain ⟨tp, ht⟩ : ∃ tp, (tw 8 a.x.n b.x.n).2.1 = tp := ⟨_, rfl⟩
  rw [hx, ht] at HT HO
  clear hW hX hY hZ ha hb hna hnb ho2 hx ht
  unfold te.Vn.val
  go_enter Try.func46, Try.ntmps46
  go_upto_region 1 with fail
  generalize hWW : (((w.alloc (.cells #[.int .i64 a.x.k, .int .i64 a.x.n, .string a.x.s, .slice a.a a.m a.c, .int .i64 a.x.f, .int .i64 a.x.t] 24)).alloc (.cells #[.int .i64 b.x.k, .int .i64 b.x.n, .string b.x.s, .slice b.a b.m b.c, .int .i64 b.x.f, .int .i64 b.x.t] 24)).alloc (.cells #[.int .i64 0, .int .i64 0, .string ⟨#[]⟩, .slice none 0 0, .int .i64 0, .int .i64 0] 24)) = W at HW HX HY HZ ⊢
  clear hWW
  have p0 := HX.out.cell 0; have p1 := HX.out.cell 1; have q1 := HZ.out.cell 1
  simp at p0 p1 q1
  go_wp2_with fail
  refine (HT.out W).mono ?_
  rintro e w2 ⟨rfl, rfl⟩
  by_cases kk : a.x.k = 5
  · by_cases t0 : tp = 0
    · have ck : (a.x.k == 5) = true := by rw [beq_iff_eq]; omega
      have e0 : (tp == 0) = true := by rw [beq_iff_eq]; omega
      have hv : (if true = true then some (6, x) else none) = o := by rw [← HO.out]; simp [t0, kk]
      have HV := Lib.hid hv
      clear hv kk t0
      go_wp2_with fail
      refine (literal_o 6 x true o HV.out w2).mono ?_
      rintro e w3 ⟨rfl, hb3⟩
      have HY3 := Lib.hid (HY.out.below hb3); have HB3 := Lib.hid (HW.out.trans (hb3.mono HW.out.size))
      clear hb3
      go_wp2_with (refine wpList_store_T rfl _ _ rfl rfl HY3.out (lv o) rfl ?_)
      intro w4 hv4 ho4
      go_wp2
      try simp only [Exit.inBlock, Exit.then]
      refine bodyPost_ret (te.results_cell_tmp rfl _ _ (w.heap.size + 1 + 1) _ _ _ rfl hv4 Try.underlying24 rfl (by kernel_rfl)) rfl ?_
      exact ⟨rfl, HB3.out.trans (ho4.below (by omega))⟩
    · have ck : (a.x.k == 5) = true := by rw [beq_iff_eq]; omega
      have e0 : (tp == 0) = false := by rw [beq_eq_false_iff_ne]; omega
      have hv : (if false = true then some (6, x) else none) = o := by rw [← HO.out]; simp [t0, kk]
      have HV := Lib.hid hv
      clear hv kk t0
      go_wp2_with fail
      refine (literal_o 6 x false o HV.out w2).mono ?_
      rintro e w3 ⟨rfl, hb3⟩
      have HY3 := Lib.hid (HY.out.below hb3); have HB3 := Lib.hid (HW.out.trans (hb3.mono HW.out.size))
      clear hb3
      go_wp2_with (refine wpList_store_T rfl _ _ rfl rfl HY3.out (lv o) rfl ?_)
      intro w4 hv4 ho4
      go_wp2
      try simp only [Exit.inBlock, Exit.then]
      refine bodyPost_ret (te.results_cell_tmp rfl _ _ (w.heap.size + 1 + 1) _ _ _ rfl hv4 Try.underlying24 rfl (by kernel_rfl)) rfl ?_
      exact ⟨rfl, HB3.out.trans (ho4.below (by omega))⟩
  · by_cases t0 : tp = 0
    · have ck : (a.x.k == 5) = false := by rw [beq_eq_false_iff_ne]; omega
      have e0 : (tp == 0) = true := by rw [beq_iff_eq]; omega
      have hv : (if false = true then some (6, x) else none) = o := by rw [← HO.out]; simp [t0, kk]
      have HV := Lib.hid hv
      clear hv kk t0
      go_wp2_with fail
      refine (literal_o 6 x false o HV.out w2).mono ?_
      rintro e w3 ⟨rfl, hb3⟩
      have HY3 := Lib.hid (HY.out.below hb3); have HB3 := Lib.hid (HW.out.trans (hb3.mono HW.out.size))
      clear hb3
      go_wp2_with (refine wpList_store_T rfl _ _ rfl rfl HY3.out (lv o) rfl ?_)
      intro w4 hv4 ho4
      go_wp2
      try simp only [Exit.inBlock, Exit.then]
      refine bodyPost_ret (te.results_cell_tmp rfl _ _ (w.heap.size + 1 + 1) _ _ _ rfl hv4 Try.underlying24 rfl (by kernel_rfl)) rfl ?_
      exact ⟨rfl, HB3.out.trans (ho4.below (by omega))⟩
    · have ck : (a.x.k == 5) = false := by rw [beq_eq_false_iff_ne]; omega
      have e0 : (tp == 0) = false := by rw [beq_eq_false_iff_ne]; omega
      have hv : (if false = true then some (6, x) else none) = o := by rw [← HO.out]; simp [t0, kk]
      have HV := Lib.hid hv
      clear hv kk t0
      go_wp2_with fail
      refine (literal_o 6 x false o HV.out w2).mono ?_
      rintro e w3 ⟨rfl, hb3⟩
      have HY3 := Lib.hid (HY.out.below hb3); have HB3 := Lib.hid (HW.out.trans (hb3.mono HW.out.size))
      clear hb3
      go_wp2_with (refine wpList_store_T rfl _ _ rfl rfl HY3.out (lv o) rfl ?_)
      intro w4 hv4 ho4
      go_wp2
      try simp only [Exit.inBlock, Exit.then]
      refine bodyPost_ret (te.results_cell_tmp rfl _ _ (w.heap.size + 1 + 1) _ _ _ rfl hv4 Try.underlying24 rfl (by kernel_rfl)) rfl ?_
      exact ⟨rfl, HB3.out.trans (ho4.below (by omega))⟩
set_option maxRecDepth 100000 in
set_option maxHeartbeats 4000000 in
theorem two_9 (a b : te.Vn) (w : World) (ha : a.Rd w) (hb : b.Rd w) : Calls Try.prog 46 #[.int .i64 9, a.val, b.val] w (VP (two 9 a.x.k a.x.n b.x.n) w) := by
  have hW : Below w.heap.size w (((w.alloc (.cells #[.int .i64 a.x.k, .int .i64 a.x.n, .string a.x.s, .slice a.a a.m a.c, .int .i64 a.x.f, .int .i64 a.x.t] 24)).alloc (.cells #[.int .i64 b.x.k, .int .i64 b.x.n, .string b.x.s, .slice b.a b.m b.c, .int .i64 b.x.f, .int .i64 b.x.t] 24)).alloc (.cells #[.int .i64 0, .int .i64 0, .string ⟨#[]⟩, .slice none 0 0, .int .i64 0, .int .i64 0] 24)) := (((Below.refl _ _).alloc (Nat.le_refl _) _).alloc (by simp only [te.size_alloc]; omega) _).alloc (by simp only [te.size_alloc]; omega) _
  have hX : VB (((w.alloc (.cells #[.int .i64 a.x.k, .int .i64 a.x.n, .string a.x.s, .slice a.a a.m a.c, .int .i64 a.x.f, .int .i64 a.x.t] 24)).alloc (.cells #[.int .i64 b.x.k, .int .i64 b.x.n, .string b.x.s, .slice b.a b.m b.c, .int .i64 b.x.f, .int .i64 b.x.t] 24)).alloc (.cells #[.int .i64 0, .int .i64 0, .string ⟨#[]⟩, .slice none 0 0, .int .i64 0, .int .i64 0] 24)) w.heap.size a := ((vb_new w a).below (below_alloc _ _)).below (below_alloc _ _)
  have hZ : VB (((w.alloc (.cells #[.int .i64 a.x.k, .int .i64 a.x.n, .string a.x.s, .slice a.a a.m a.c, .int .i64 a.x.f, .int .i64 a.x.t] 24)).alloc (.cells #[.int .i64 b.x.k, .int .i64 b.x.n, .string b.x.s, .slice b.a b.m b.c, .int .i64 b.x.f, .int .i64 b.x.t] 24)).alloc (.cells #[.int .i64 0, .int .i64 0, .string ⟨#[]⟩, .slice none 0 0, .int .i64 0, .int .i64 0] 24)) (w.heap.size + 1) b := by
    have := (vb_new (w.alloc (.cells #[.int .i64 a.x.k, .int .i64 a.x.n, .string a.x.s, .slice a.a a.m a.c, .int .i64 a.x.f, .int .i64 a.x.t] 24)) b).below (below_alloc _ (.cells #[.int .i64 0, .int .i64 0, .string ⟨#[]⟩, .slice none 0 0, .int .i64 0, .int .i64 0] 24))
    rwa [te.size_alloc] at this
  have hY : VB (((w.alloc (.cells #[.int .i64 a.x.k, .int .i64 a.x.n, .string a.x.s, .slice a.a a.m a.c, .int .i64 a.x.f, .int .i64 a.x.t] 24)).alloc (.cells #[.int .i64 b.x.k, .int .i64 b.x.n, .string b.x.s, .slice b.a b.m b.c, .int .i64 b.x.f, .int .i64 b.x.t] 24)).alloc (.cells #[.int .i64 0, .int .i64 0, .string ⟨#[]⟩, .slice none 0 0, .int .i64 0, .int .i64 0] 24)) (w.heap.size + 1 + 1) te.v0 := by
    have := vb_new0 ((w.alloc (.cells #[.int .i64 a.x.k, .int .i64 a.x.n, .string a.x.s, .slice a.a a.m a.c, .int .i64 a.x.f, .int .i64 a.x.t] 24)).alloc (.cells #[.int .i64 b.x.k, .int .i64 b.x.n, .string b.x.s, .slice b.a b.m b.c, .int .i64 b.x.f, .int .i64 b.x.t] 24))
    rwa [te.size_alloc, te.size_alloc] at this
  have hna : I6 a.x.n := ha.2.n
  have hnb : I6 b.x.n := hb.2.n
  have HT := Lib.hid (fun W => ((tw_tells 9 a.x.n b.x.n hna hnb).1 W).1)
  have HW := Lib.hid hW; have HX := Lib.hid hX; have HY := Lib.hid hY; have HZ := Lib.hid hZ
  obtain ⟨o, ho2⟩ : ∃ o, two 9 a.x.k a.x.n b.x.n = o := ⟨_, rfl⟩
  have HO := Lib.hid ho2
  rw [ho2]
  unfold two at HO
  obtain ⟨x, hx⟩ : ∃ x, (tw 9 a.x.n b.x.n).1 = x := ⟨_, rfl⟩
  obtain ⟨tp, ht⟩ : ∃ tp, (tw 9 a.x.n b.x.n).2.1 = tp := ⟨_, rfl⟩
  rw [hx, ht] at HT HO
  clear hW hX hY hZ ha hb hna hnb ho2 hx ht
  unfold te.Vn.val
  go_enter Try.func46, Try.ntmps46
  go_upto_region 1 with fail
  generalize hWW : (((w.alloc (.cells #[.int .i64 a.x.k, .int .i64 a.x.n, .string a.x.s, .slice a.a a.m a.c, .int .i64 a.x.f, .int .i64 a.x.t] 24)).alloc (.cells #[.int .i64 b.x.k, .int .i64 b.x.n, .string b.x.s, .slice b.a b.m b.c, .int .i64 b.x.f, .int .i64 b.x.t] 24)).alloc (.cells #[.int .i64 0, .int .i64 0, .string ⟨#[]⟩, .slice none 0 0, .int .i64 0, .int .i64 0] 24)) = W at HW HX HY HZ ⊢
  clear hWW
  have p0 := HX.out.cell 0; have p1 := HX.out.cell 1; have q1 := HZ.out.cell 1
  simp at p0 p1 q1
  go_wp2_with fail
  refine (HT.out W).mono ?_
  rintro e w2 ⟨rfl, rfl⟩
  by_cases kk : a.x.k = 5
  · by_cases t0 : tp = 0
    · have ck : (a.x.k == 5) = true := by rw [beq_iff_eq]; omega
      have e0 : (tp == 0) = true := by rw [beq_iff_eq]; omega
      have hv : (if true = true then some (5, x) else none) = o := by rw [← HO.out]; simp [t0, kk]
      have HV := Lib.hid hv
      clear hv kk t0
      go_wp2_with fail
      refine (literal_o 5 x true o HV.out w2).mono ?_
      rintro e w3 ⟨rfl, hb3⟩
      have HY3 := Lib.hid (HY.out.below hb3); have HB3 := Lib.hid (HW.out.trans (hb3.mono HW.out.size))
      clear hb3
      go_wp2_with (refine wpList_store_T rfl _ _ rfl rfl HY3.out (lv o) rfl ?_)
      intro w4 hv4 ho4
      go_wp2
      try simp only [Exit.inBlock, Exit.then]
      refine bodyPost_ret (te.results_cell_tmp rfl _ _ (w.heap.size + 1 + 1) _ _ _ rfl hv4 Try.underlying24 rfl (by kernel_rfl)) rfl ?_
      exact ⟨rfl, HB3.out.trans (ho4.below (by omega))⟩
    · have ck : (a.x.k == 5) = true := by rw [beq_iff_eq]; omega
      have e0 : (tp == 0) = false := by rw [beq_eq_false_iff_ne]; omega
      have hv : (if false = true then some (5, x) else none) = o := by rw [← HO.out]; simp [t0, kk]
      have HV := Lib.hid hv
      clear hv kk t0
      go_wp2_with fail
      refine (literal_o 5 x false o HV.out w2).mono ?_
      rintro e w3 ⟨rfl, hb3⟩
      have HY3 := Lib.hid (HY.out.below hb3); have HB3 := Lib.hid (HW.out.trans (hb3.mono HW.out.size))
      clear hb3
      go_wp2_with (refine wpList_store_T rfl _ _ rfl rfl HY3.out (lv o) rfl ?_)
      intro w4 hv4 ho4
      go_wp2
      try simp only [Exit.inBlock, Exit.then]
      refine bodyPost_ret (te.results_cell_tmp rfl _ _ (w.heap.size + 1 + 1) _ _ _ rfl hv4 Try.underlying24 rfl (by kernel_rfl)) rfl ?_
      exact ⟨rfl, HB3.out.trans (ho4.below (by omega))⟩
  · by_cases t0 : tp = 0
    · have ck : (a.x.k == 5) = false := by rw [beq_eq_false_iff_ne]; omega
      have e0 : (tp == 0) = true := by rw [beq_iff_eq]; omega
      have hv : (if false = true then some (5, x) else none) = o := by rw [← HO.out]; simp [t0, kk]
      have HV := Lib.hid hv
      clear hv kk t0
      go_wp2_with fail
      refine (literal_o 5 x false o HV.out w2).mono ?_
      rintro e w3 ⟨rfl, hb3⟩
      have HY3 := Lib.hid (HY.out.below hb3); have HB3 := Lib.hid (HW.out.trans (hb3.mono HW.out.size))
      clear hb3
      go_wp2_with (refine wpList_store_T rfl _ _ rfl rfl HY3.out (lv o) rfl ?_)
      intro w4 hv4 ho4
      go_wp2
      try simp only [Exit.inBlock, Exit.then]
      refine bodyPost_ret (te.results_cell_tmp rfl _ _ (w.heap.size + 1 + 1) _ _ _ rfl hv4 Try.underlying24 rfl (by kernel_rfl)) rfl ?_
      exact ⟨rfl, HB3.out.trans (ho4.below (by omega))⟩
    · have ck : (a.x.k == 5) = false := by rw [beq_eq_false_iff_ne]; omega
      have e0 : (tp == 0) = false := by rw [beq_eq_false_iff_ne]; omega
      have hv : (if false = true then some (5, x) else none) = o := by rw [← HO.out]; simp [t0, kk]
      have HV := Lib.hid hv
      clear hv kk t0
      go_wp2_with fail
      refine (literal_o 5 x false o HV.out w2).mono ?_
      rintro e w3 ⟨rfl, hb3⟩
      have HY3 := Lib.hid (HY.out.below hb3); have HB3 := Lib.hid (HW.out.trans (hb3.mono HW.out.size))
      clear hb3
      go_wp2_with (refine wpList_store_T rfl _ _ rfl rfl HY3.out (lv o) rfl ?_)
      intro w4 hv4 ho4
      go_wp2
      try simp only [Exit.inBlock, Exit.then]
      refine bodyPost_ret (te.results_cell_tmp rfl _ _ (w.heap.size + 1 + 1) _ _ _ rfl hv4 Try.underlying24 rfl (by kernel_rfl)) rfl ?_
      exact ⟨rfl, HB3.out.trans (ho4.below (by omega))⟩
set_option maxRecDepth 100000 in
set_option maxHeartbeats 4000000 in
theorem two_10 (a b : te.Vn) (w : World) (ha : a.Rd w) (hb : b.Rd w) : Calls Try.prog 46 #[.int .i64 10, a.val, b.val] w (VP (two 10 a.x.k a.x.n b.x.n) w) := by
  have hW : Below w.heap.size w (((w.alloc (.cells #[.int .i64 a.x.k, .int .i64 a.x.n, .string a.x.s, .slice a.a a.m a.c, .int .i64 a.x.f, .int .i64 a.x.t] 24)).alloc (.cells #[.int .i64 b.x.k, .int .i64 b.x.n, .string b.x.s, .slice b.a b.m b.c, .int .i64 b.x.f, .int .i64 b.x.t] 24)).alloc (.cells #[.int .i64 0, .int .i64 0, .string ⟨#[]⟩, .slice none 0 0, .int .i64 0, .int .i64 0] 24)) := (((Below.refl _ _).alloc (Nat.le_refl _) _).alloc (by simp only [te.size_alloc]; omega) _).alloc (by simp only [te.size_alloc]; omega) _
  have hX : VB (((w.alloc (.cells #[.int .i64 a.x.k, .int .i64 a.x.n, .string a.x.s, .slice a.a a.m a.c, .int .i64 a.x.f, .int .i64 a.x.t] 24)).alloc (.cells #[.int .i64 b.x.k, .int .i64 b.x.n, .string b.x.s, .slice b.a b.m b.c, .int .i64 b.x.f, .int .i64 b.x.t] 24)).alloc (.cells #[.int .i64 0, .int .i64 0, .string ⟨#[]⟩, .slice none 0 0, .int .i64 0, .int .i64 0] 24)) w.heap.size a := ((vb_new w a).below (below_alloc _ _)).below (below_alloc _ _)
  have hZ : VB (((w.alloc (.cells #[.int .i64 a.x.k, .int .i64 a.x.n, .string a.x.s, .slice a.a a.m a.c, .int .i64 a.x.f, .int .i64 a.x.t] 24)).alloc (.cells #[.int .i64 b.x.k, .int .i64 b.x.n, .string b.x.s, .slice b.a b.m b.c, .int .i64 b.x.f, .int .i64 b.x.t] 24)).alloc (.cells #[.int .i64 0, .int .i64 0, .string ⟨#[]⟩, .slice none 0 0, .int .i64 0, .int .i64 0] 24)) (w.heap.size + 1) b := by
    have := (vb_new (w.alloc (.cells #[.int .i64 a.x.k, .int .i64 a.x.n, .string a.x.s, .slice a.a a.m a.c, .int .i64 a.x.f, .int .i64 a.x.t] 24)) b).below (below_alloc _ (.cells #[.int .i64 0, .int .i64 0, .string ⟨#[]⟩, .slice none 0 0, .int .i64 0, .int .i64 0] 24))
    rwa [te.size_alloc] at this
  have hY : VB (((w.alloc (.cells #[.int .i64 a.x.k, .int .i64 a.x.n, .string a.x.s, .slice a.a a.m a.c, .int .i64 a.x.f, .int .i64 a.x.t] 24)).alloc (.cells #[.int .i64 b.x.k, .int .i64 b.x.n, .string b.x.s, .slice b.a b.m b.c, .int .i64 b.x.f, .int .i64 b.x.t] 24)).alloc (.cells #[.int .i64 0, .int .i64 0, .string ⟨#[]⟩, .slice none 0 0, .int .i64 0, .int .i64 0] 24)) (w.heap.size + 1 + 1) te.v0 := by
    have := vb_new0 ((w.alloc (.cells #[.int .i64 a.x.k, .int .i64 a.x.n, .string a.x.s, .slice a.a a.m a.c, .int .i64 a.x.f, .int .i64 a.x.t] 24)).alloc (.cells #[.int .i64 b.x.k, .int .i64 b.x.n, .string b.x.s, .slice b.a b.m b.c, .int .i64 b.x.f, .int .i64 b.x.t] 24))
    rwa [te.size_alloc, te.size_alloc] at this
  have hna : I6 a.x.n := ha.2.n
  have hnb : I6 b.x.n := hb.2.n
  have HT := Lib.hid (fun W => ((tw_tells 10 a.x.n b.x.n hna hnb).1 W).1)
  have HW := Lib.hid hW; have HX := Lib.hid hX; have HY := Lib.hid hY; have HZ := Lib.hid hZ
  obtain ⟨o, ho2⟩ : ∃ o, two 10 a.x.k a.x.n b.x.n = o := ⟨_, rfl⟩
  have HO := Lib.hid ho2
  rw [ho2]
  unfold two at HO
  obtain ⟨x, hx⟩ : ∃ x, (tw 10 a.x.n b.x.n).1 = x := ⟨_, rfl⟩
  obtain ⟨tp, ht⟩ : ∃ tp, (tw 10 a.x.n b.x.n).2.1 = tp := ⟨_, rfl⟩
  rw [hx, ht] at HT HO
  clear hW hX hY hZ ha hb hna hnb ho2 hx ht
  unfold te.Vn.val
  go_enter Try.func46, Try.ntmps46
  go_upto_region 1 with fail
  generalize hWW : (((w.alloc (.cells #[.int .i64 a.x.k, .int .i64 a.x.n, .string a.x.s, .slice a.a a.m a.c, .int .i64 a.x.f, .int .i64 a.x.t] 24)).alloc (.cells #[.int .i64 b.x.k, .int .i64 b.x.n, .string b.x.s, .slice b.a b.m b.c, .int .i64 b.x.f, .int .i64 b.x.t] 24)).alloc (.cells #[.int .i64 0, .int .i64 0, .string ⟨#[]⟩, .slice none 0 0, .int .i64 0, .int .i64 0] 24)) = W at HW HX HY HZ ⊢
  clear hWW
  have p0 := HX.out.cell 0; have p1 := HX.out.cell 1; have q1 := HZ.out.cell 1
  simp at p0 p1 q1
  go_wp2_with fail
  refine (HT.out W).mono ?_
  rintro e w2 ⟨rfl, rfl⟩
  by_cases kk : a.x.k = 5
  · by_cases t0 : tp = 0
    · have ck : (a.x.k == 5) = true := by rw [beq_iff_eq]; omega
      have e0 : (tp == 0) = true := by rw [beq_iff_eq]; omega
      have hv : (if true = true then some (5, x) else none) = o := by rw [← HO.out]; simp [t0, kk]
      have HV := Lib.hid hv
      clear hv kk t0
      go_wp2_with fail
      refine (literal_o 5 x true o HV.out w2).mono ?_
      rintro e w3 ⟨rfl, hb3⟩
      have HY3 := Lib.hid (HY.out.below hb3); have HB3 := Lib.hid (HW.out.trans (hb3.mono HW.out.size))
      clear hb3
      go_wp2_with (refine wpList_store_T rfl _ _ rfl rfl HY3.out (lv o) rfl ?_)
      intro w4 hv4 ho4
      go_wp2
      try simp only [Exit.inBlock, Exit.then]
      refine bodyPost_ret (te.results_cell_tmp rfl _ _ (w.heap.size + 1 + 1) _ _ _ rfl hv4 Try.underlying24 rfl (by kernel_rfl)) rfl ?_
      exact ⟨rfl, HB3.out.trans (ho4.below (by omega))⟩
    · have ck : (a.x.k == 5) = true := by rw [beq_iff_eq]; omega
      have e0 : (tp == 0) = false := by rw [beq_eq_false_iff_ne]; omega
      have hv : (if false = true then some (5, x) else none) = o := by rw [← HO.out]; simp [t0, kk]
      have HV := Lib.hid hv
      clear hv kk t0
      go_wp2_with fail
      refine (literal_o 5 x false o HV.out w2).mono ?_
      rintro e w3 ⟨rfl, hb3⟩
      have HY3 := Lib.hid (HY.out.below hb3); have HB3 := Lib.hid (HW.out.trans (hb3.mono HW.out.size))
      clear hb3
      go_wp2_with (refine wpList_store_T rfl _ _ rfl rfl HY3.out (lv o) rfl ?_)
      intro w4 hv4 ho4
      go_wp2
      try simp only [Exit.inBlock, Exit.then]
      refine bodyPost_ret (te.results_cell_tmp rfl _ _ (w.heap.size + 1 + 1) _ _ _ rfl hv4 Try.underlying24 rfl (by kernel_rfl)) rfl ?_
      exact ⟨rfl, HB3.out.trans (ho4.below (by omega))⟩
  · by_cases t0 : tp = 0
    · have ck : (a.x.k == 5) = false := by rw [beq_eq_false_iff_ne]; omega
      have e0 : (tp == 0) = true := by rw [beq_iff_eq]; omega
      have hv : (if false = true then some (5, x) else none) = o := by rw [← HO.out]; simp [t0, kk]
      have HV := Lib.hid hv
      clear hv kk t0
      go_wp2_with fail
      refine (literal_o 5 x false o HV.out w2).mono ?_
      rintro e w3 ⟨rfl, hb3⟩
      have HY3 := Lib.hid (HY.out.below hb3); have HB3 := Lib.hid (HW.out.trans (hb3.mono HW.out.size))
      clear hb3
      go_wp2_with (refine wpList_store_T rfl _ _ rfl rfl HY3.out (lv o) rfl ?_)
      intro w4 hv4 ho4
      go_wp2
      try simp only [Exit.inBlock, Exit.then]
      refine bodyPost_ret (te.results_cell_tmp rfl _ _ (w.heap.size + 1 + 1) _ _ _ rfl hv4 Try.underlying24 rfl (by kernel_rfl)) rfl ?_
      exact ⟨rfl, HB3.out.trans (ho4.below (by omega))⟩
    · have ck : (a.x.k == 5) = false := by rw [beq_eq_false_iff_ne]; omega
      have e0 : (tp == 0) = false := by rw [beq_eq_false_iff_ne]; omega
      have hv : (if false = true then some (5, x) else none) = o := by rw [← HO.out]; simp [t0, kk]
      have HV := Lib.hid hv
      clear hv kk t0
      go_wp2_with fail
      refine (literal_o 5 x false o HV.out w2).mono ?_
      rintro e w3 ⟨rfl, hb3⟩
      have HY3 := Lib.hid (HY.out.below hb3); have HB3 := Lib.hid (HW.out.trans (hb3.mono HW.out.size))
      clear hb3
      go_wp2_with (refine wpList_store_T rfl _ _ rfl rfl HY3.out (lv o) rfl ?_)
      intro w4 hv4 ho4
      go_wp2
      try simp only [Exit.inBlock, Exit.then]
      refine bodyPost_ret (te.results_cell_tmp rfl _ _ (w.heap.size + 1 + 1) _ _ _ rfl hv4 Try.underlying24 rfl (by kernel_rfl)) rfl ?_
      exact ⟨rfl, HB3.out.trans (ho4.below (by omega))⟩
set_option maxRecDepth 100000 in
set_option maxHeartbeats 4000000 in
theorem two_11 (a b : te.Vn) (w : World) (ha : a.Rd w) (hb : b.Rd w) : Calls Try.prog 46 #[.int .i64 11, a.val, b.val] w (VP (two 11 a.x.k a.x.n b.x.n) w) := by
  have hW : Below w.heap.size w (((w.alloc (.cells #[.int .i64 a.x.k, .int .i64 a.x.n, .string a.x.s, .slice a.a a.m a.c, .int .i64 a.x.f, .int .i64 a.x.t] 24)).alloc (.cells #[.int .i64 b.x.k, .int .i64 b.x.n, .string b.x.s, .slice b.a b.m b.c, .int .i64 b.x.f, .int .i64 b.x.t] 24)).alloc (.cells #[.int .i64 0, .int .i64 0, .string ⟨#[]⟩, .slice none 0 0, .int .i64 0, .int .i64 0] 24)) := (((Below.refl _ _).alloc (Nat.le_refl _) _).alloc (by simp only [te.size_alloc]; omega) _).alloc (by simp only [te.size_alloc]; omega) _
  have hX : VB (((w.alloc (.cells #[.int .i64 a.x.k, .int .i64 a.x.n, .string a.x.s, .slice a.a a.m a.c, .int .i64 a.x.f, .int .i64 a.x.t] 24)).alloc (.cells #[.int .i64 b.x.k, .int .i64 b.x.n, .string b.x.s, .slice b.a b.m b.c, .int .i64 b.x.f, .int .i64 b.x.t] 24)).alloc (.cells #[.int .i64 0, .int .i64 0, .string ⟨#[]⟩, .slice none 0 0, .int .i64 0, .int .i64 0] 24)) w.heap.size a := ((vb_new w a).below (below_alloc _ _)).below (below_alloc _ _)
  have hZ : VB (((w.alloc (.cells #[.int .i64 a.x.k, .int .i64 a.x.n, .string a.x.s, .slice a.a a.m a.c, .int .i64 a.x.f, .int .i64 a.x.t] 24)).alloc (.cells #[.int .i64 b.x.k, .int .i64 b.x.n, .string b.x.s, .slice b.a b.m b.c, .int .i64 b.x.f, .int .i64 b.x.t] 24)).alloc (.cells #[.int .i64 0, .int .i64 0, .string ⟨#[]⟩, .slice none 0 0, .int .i64 0, .int .i64 0] 24)) (w.heap.size + 1) b := by
    have := (vb_new (w.alloc (.cells #[.int .i64 a.x.k, .int .i64 a.x.n, .string a.x.s, .slice a.a a.m a.c, .int .i64 a.x.f, .int .i64 a.x.t] 24)) b).below (below_alloc _ (.cells #[.int .i64 0, .int .i64 0, .string ⟨#[]⟩, .slice none 0 0, .int .i64 0, .int .i64 0] 24))
    rwa [te.size_alloc] at this
  have hY : VB (((w.alloc (.cells #[.int .i64 a.x.k, .int .i64 a.x.n, .string a.x.s, .slice a.a a.m a.c, .int .i64 a.x.f, .int .i64 a.x.t] 24)).alloc (.cells #[.int .i64 b.x.k, .int .i64 b.x.n, .string b.x.s, .slice b.a b.m b.c, .int .i64 b.x.f, .int .i64 b.x.t] 24)).alloc (.cells #[.int .i64 0, .int .i64 0, .string ⟨#[]⟩, .slice none 0 0, .int .i64 0, .int .i64 0] 24)) (w.heap.size + 1 + 1) te.v0 := by
    have := vb_new0 ((w.alloc (.cells #[.int .i64 a.x.k, .int .i64 a.x.n, .string a.x.s, .slice a.a a.m a.c, .int .i64 a.x.f, .int .i64 a.x.t] 24)).alloc (.cells #[.int .i64 b.x.k, .int .i64 b.x.n, .string b.x.s, .slice b.a b.m b.c, .int .i64 b.x.f, .int .i64 b.x.t] 24))
    rwa [te.size_alloc, te.size_alloc] at this
  have hna : I6 a.x.n := ha.2.n
  have hnb : I6 b.x.n := hb.2.n
  have HT := Lib.hid (fun W => ((tw_tells 11 a.x.n b.x.n hna hnb).1 W).1)
  have HW := Lib.hid hW; have HX := Lib.hid hX; have HY := Lib.hid hY; have HZ := Lib.hid hZ
  obtain ⟨o, ho2⟩ : ∃ o, two 11 a.x.k a.x.n b.x.n = o := ⟨_, rfl⟩
  have HO := Lib.hid ho2
  rw [ho2]
  unfold two at HO
  obtain ⟨x, hx⟩ : ∃ x, (tw 11 a.x.n b.x.n).1 = x := ⟨_, rfl⟩
  obtain ⟨tp, ht⟩ : ∃ tp, (tw 11 a.x.n b.x.n).2.1 = tp := ⟨_, rfl⟩
  rw [hx, ht] at HT HO
  clear hW hX hY hZ ha hb hna hnb ho2 hx ht
  unfold te.Vn.val
  go_enter Try.func46, Try.ntmps46
  go_upto_region 1 with fail
  generalize hWW : (((w.alloc (.cells #[.int .i64 a.x.k, .int .i64 a.x.n, .string a.x.s, .slice a.a a.m a.c, .int .i64 a.x.f, .int .i64 a.x.t] 24)).alloc (.cells #[.int .i64 b.x.k, .int .i64 b.x.n, .string b.x.s, .slice b.a b.m b.c, .int .i64 b.x.f, .int .i64 b.x.t] 24)).alloc (.cells #[.int .i64 0, .int .i64 0, .string ⟨#[]⟩, .slice none 0 0, .int .i64 0, .int .i64 0] 24)) = W at HW HX HY HZ ⊢
  clear hWW
  have p0 := HX.out.cell 0; have p1 := HX.out.cell 1; have q1 := HZ.out.cell 1
  simp at p0 p1 q1
  go_wp2_with fail
  refine (HT.out W).mono ?_
  rintro e w2 ⟨rfl, rfl⟩
  by_cases kk : a.x.k = 5
  · by_cases t0 : tp = 0
    · have ck : (a.x.k == 5) = true := by rw [beq_iff_eq]; omega
      have e0 : (tp == 0) = true := by rw [beq_iff_eq]; omega
      have hv : (if true = true then some (5, x) else none) = o := by rw [← HO.out]; simp [t0, kk]
      have HV := Lib.hid hv
      clear hv kk t0
      go_wp2_with fail
      refine (literal_o 5 x true o HV.out w2).mono ?_
      rintro e w3 ⟨rfl, hb3⟩
      have HY3 := Lib.hid (HY.out.below hb3); have HB3 := Lib.hid (HW.out.trans (hb3.mono HW.out.size))
      clear hb3
      go_wp2_with (refine wpList_store_T rfl _ _ rfl rfl HY3.out (lv o) rfl ?_)
      intro w4 hv4 ho4
      go_wp2
      try simp only [Exit.inBlock, Exit.then]
      refine bodyPost_ret (te.results_cell_tmp rfl _ _ (w.heap.size + 1 + 1) _ _ _ rfl hv4 Try.underlying24 rfl (by kernel_rfl)) rfl ?_
      exact ⟨rfl, HB3.out.trans (ho4.below (by omega))⟩
    · have ck : (a.x.k == 5) = true := by rw [beq_iff_eq]; omega
      have e0 : (tp == 0) = false := by rw [beq_eq_false_iff_ne]; omega
      have hv : (if false = true then some (5, x) else none) = o := by rw [← HO.out]; simp [t0, kk]
      have HV := Lib.hid hv
      clear hv kk t0
      go_wp2_with fail
      refine (literal_o 5 x false o HV.out w2).mono ?_
      rintro e w3 ⟨rfl, hb3⟩
      have HY3 := Lib.hid (HY.out.below hb3); have HB3 := Lib.hid (HW.out.trans (hb3.mono HW.out.size))
      clear hb3
      go_wp2_with (refine wpList_store_T rfl _ _ rfl rfl HY3.out (lv o) rfl ?_)
      intro w4 hv4 ho4
      go_wp2
      try simp only [Exit.inBlock, Exit.then]
      refine bodyPost_ret (te.results_cell_tmp rfl _ _ (w.heap.size + 1 + 1) _ _ _ rfl hv4 Try.underlying24 rfl (by kernel_rfl)) rfl ?_
      exact ⟨rfl, HB3.out.trans (ho4.below (by omega))⟩
  · by_cases t0 : tp = 0
    · have ck : (a.x.k == 5) = false := by rw [beq_eq_false_iff_ne]; omega
      have e0 : (tp == 0) = true := by rw [beq_iff_eq]; omega
      have hv : (if false = true then some (5, x) else none) = o := by rw [← HO.out]; simp [t0, kk]
      have HV := Lib.hid hv
      clear hv kk t0
      go_wp2_with fail
      refine (literal_o 5 x false o HV.out w2).mono ?_
      rintro e w3 ⟨rfl, hb3⟩
      have HY3 := Lib.hid (HY.out.below hb3); have HB3 := Lib.hid (HW.out.trans (hb3.mono HW.out.size))
      clear hb3
      go_wp2_with (refine wpList_store_T rfl _ _ rfl rfl HY3.out (lv o) rfl ?_)
      intro w4 hv4 ho4
      go_wp2
      try simp only [Exit.inBlock, Exit.then]
      refine bodyPost_ret (te.results_cell_tmp rfl _ _ (w.heap.size + 1 + 1) _ _ _ rfl hv4 Try.underlying24 rfl (by kernel_rfl)) rfl ?_
      exact ⟨rfl, HB3.out.trans (ho4.below (by omega))⟩
    · have ck : (a.x.k == 5) = false := by rw [beq_eq_false_iff_ne]; omega
      have e0 : (tp == 0) = false := by rw [beq_eq_false_iff_ne]; omega
      have hv : (if false = true then some (5, x) else none) = o := by rw [← HO.out]; simp [t0, kk]
      have HV := Lib.hid hv
      clear hv kk t0
      go_wp2_with fail
      refine (literal_o 5 x false o HV.out w2).mono ?_
      rintro e w3 ⟨rfl, hb3⟩
      have HY3 := Lib.hid (HY.out.below hb3); have HB3 := Lib.hid (HW.out.trans (hb3.mono HW.out.size))
      clear hb3
      go_wp2_with (refine wpList_store_T rfl _ _ rfl rfl HY3.out (lv o) rfl ?_)
      intro w4 hv4 ho4
      go_wp2
      try simp only [Exit.inBlock, Exit.then]
      refine bodyPost_ret (te.results_cell_tmp rfl _ _ (w.heap.size + 1 + 1) _ _ _ rfl hv4 Try.underlying24 rfl (by kernel_rfl)) rfl ?_
      exact ⟨rfl, HB3.out.trans (ho4.below (by omega))⟩
set_option maxRecDepth 100000 in
set_option maxHeartbeats 4000000 in
theorem two_12 (a b : te.Vn) (w : World) (ha : a.Rd w) (hb : b.Rd w) : Calls Try.prog 46 #[.int .i64 12, a.val, b.val] w (VP (two 12 a.x.k a.x.n b.x.n) w) := by
  have hW : Below w.heap.size w (((w.alloc (.cells #[.int .i64 a.x.k, .int .i64 a.x.n, .string a.x.s, .slice a.a a.m a.c, .int .i64 a.x.f, .int .i64 a.x.t] 24)).alloc (.cells #[.int .i64 b.x.k, .int .i64 b.x.n, .string b.x.s, .slice b.a b.m b.c, .int .i64 b.x.f, .int .i64 b.x.t] 24)).alloc (.cells #[.int .i64 0, .int .i64 0, .string ⟨#[]⟩, .slice none 0 0, .int .i64 0, .int .i64 0] 24)) := (((Below.refl _ _).alloc (Nat.le_refl _) _).alloc (by simp only [te.size_alloc]; omega) _).alloc (by simp only [te.size_alloc]; omega) _
  have hX : VB (((w.alloc (.cells #[.int .i64 a.x.k, .int .i64 a.x.n, .string a.x.s, .slice a.a a.m a.c, .int .i64 a.x.f, .int .i64 a.x.t] 24)).alloc (.cells #[.int .i64 b.x.k, .int .i64 b.x.n, .string b.x.s, .slice b.a b.m b.c, .int .i64 b.x.f, .int .i64 b.x.t] 24)).alloc (.cells #[.int .i64 0, .int .i64 0, .string ⟨#[]⟩, .slice none 0 0, .int .i64 0, .int .i64 0] 24)) w.heap.size a := ((vb_new w a).below (below_alloc _ _)).below (below_alloc _ _)
  have hZ : VB (((w.alloc (.cells #[.int .i64 a.x.k, .int .i64 a.x.n, .string a.x.s, .slice a.a a.m a.c, .int .i64 a.x.f, .int .i64 a.x.t] 24)).alloc (.cells #[.int .i64 b.x.k, .int .i64 b.x.n, .string b.x.s, .slice b.a b.m b.c, .int .i64 b.x.f, .int .i64 b.x.t] 24)).alloc (.cells #[.int .i64 0, .int .i64 0, .string ⟨#[]⟩, .slice none 0 0, .int .i64 0, .int .i64 0] 24)) (w.heap.size + 1) b := by
    have := (vb_new (w.alloc (.cells #[.int .i64 a.x.k, .int .i64 a.x.n, .string a.x.s, .slice a.a a.m a.c, .int .i64 a.x.f, .int .i64 a.x.t] 24)) b).below (below_alloc _ (.cells #[.int .i64 0, .int .i64 0, .string ⟨#[]⟩, .slice none 0 0, .int .i64 0, .int .i64 0] 24))
    rwa [te.size_alloc] at this
  have hY : VB (((w.alloc (.cells #[.int .i64 a.x.k, .int .i64 a.x.n, .string a.x.s, .slice a.a a.m a.c, .int .i64 a.x.f, .int .i64 a.x.t] 24)).alloc (.cells #[.int .i64 b.x.k, .int .i64 b.x.n, .string b.x.s, .slice b.a b.m b.c, .int .i64 b.x.f, .int .i64 b.x.t] 24)).alloc (.cells #[.int .i64 0, .int .i64 0, .string ⟨#[]⟩, .slice none 0 0, .int .i64 0, .int .i64 0] 24)) (w.heap.size + 1 + 1) te.v0 := by
    have := vb_new0 ((w.alloc (.cells #[.int .i64 a.x.k, .int .i64 a.x.n, .string a.x.s, .slice a.a a.m a.c, .int .i64 a.x.f, .int .i64 a.x.t] 24)).alloc (.cells #[.int .i64 b.x.k, .int .i64 b.x.n, .string b.x.s, .slice b.a b.m b.c, .int .i64 b.x.f, .int .i64 b.x.t] 24))
    rwa [te.size_alloc, te.size_alloc] at this
  have hna : I6 a.x.n := ha.2.n
  have hnb : I6 b.x.n := hb.2.n
  have HT := Lib.hid (fun W => ((tw_tells 12 a.x.n b.x.n hna hnb).1 W).1)
  have HW := Lib.hid hW; have HX := Lib.hid hX; have HY := Lib.hid hY; have HZ := Lib.hid hZ
  obtain ⟨o, ho2⟩ : ∃ o, two 12 a.x.k a.x.n b.x.n = o := ⟨_, rfl⟩
  have HO := Lib.hid ho2
  rw [ho2]
  unfold two at HO
  obtain ⟨x, hx⟩ : ∃ x, (tw 12 a.x.n b.x.n).1 = x := ⟨_, rfl⟩
  obtain ⟨tp, ht⟩ : ∃ tp, (tw 12 a.x.n b.x.n).2.1 = tp := ⟨_, rfl⟩
  rw [hx, ht] at HT HO
  clear hW hX hY hZ ha hb hna hnb ho2 hx ht
  unfold te.Vn.val
  go_enter Try.func46, Try.ntmps46
  go_upto_region 1 with fail
  generalize hWW : (((w.alloc (.cells #[.int .i64 a.x.k, .int .i64 a.x.n, .string a.x.s, .slice a.a a.m a.c, .int .i64 a.x.f, .int .i64 a.x.t] 24)).alloc (.cells #[.int .i64 b.x.k, .int .i64 b.x.n, .string b.x.s, .slice b.a b.m b.c, .int .i64 b.x.f, .int .i64 b.x.t] 24)).alloc (.cells #[.int .i64 0, .int .i64 0, .string ⟨#[]⟩, .slice none 0 0, .int .i64 0, .int .i64 0] 24)) = W at HW HX HY HZ ⊢
  clear hWW
  have p0 := HX.out.cell 0; have p1 := HX.out.cell 1; have q1 := HZ.out.cell 1
  simp at p0 p1 q1
  go_wp2_with fail
  refine (HT.out W).mono ?_
  rintro e w2 ⟨rfl, rfl⟩
  by_cases kk : a.x.k = 5
  · by_cases t0 : tp = 0
    · have ck : (a.x.k == 5) = true := by rw [beq_iff_eq]; omega
      have e0 : (tp == 0) = true := by rw [beq_iff_eq]; omega
      have hv : (if true = true then some (5, x) else none) = o := by rw [← HO.out]; simp [t0, kk]
      have HV := Lib.hid hv
      clear hv kk t0
      go_wp2_with fail
      refine (literal_o 5 x true o HV.out w2).mono ?_
      rintro e w3 ⟨rfl, hb3⟩
      have HY3 := Lib.hid (HY.out.below hb3); have HB3 := Lib.hid (HW.out.trans (hb3.mono HW.out.size))
      clear hb3
      go_wp2_with (refine wpList_store_T rfl _ _ rfl rfl HY3.out (lv o) rfl ?_)
      intro w4 hv4 ho4
      go_wp2
      try simp only [Exit.inBlock, Exit.then]
      refine bodyPost_ret (te.results_cell_tmp rfl _ _ (w.heap.size + 1 + 1) _ _ _ rfl hv4 Try.underlying24 rfl (by kernel_rfl)) rfl ?_
      exact ⟨rfl, HB3.out.trans (ho4.below (by omega))⟩
    · have ck : (a.x.k == 5) = true := by rw [beq_iff_eq]; omega
      have e0 : (tp == 0) = false := by rw [beq_eq_false_iff_ne]; omega
      have hv : (if false = true then some (5, x) else none) = o := by rw [← HO.out]; simp [t0, kk]
      have HV := Lib.hid hv
      clear hv kk t0
      go_wp2_with fail
      refine (literal_o 5 x false o HV.out w2).mono ?_
      rintro e w3 ⟨rfl, hb3⟩
      have HY3 := Lib.hid (HY.out.below hb3); have HB3 := Lib.hid (HW.out.trans (hb3.mono HW.out.size))
      clear hb3
      go_wp2_with (refine wpList_store_T rfl _ _ rfl rfl HY3.out (lv o) rfl ?_)
      intro w4 hv4 ho4
      go_wp2
      try simp only [Exit.inBlock, Exit.then]
      refine bodyPost_ret (te.results_cell_tmp rfl _ _ (w.heap.size + 1 + 1) _ _ _ rfl hv4 Try.underlying24 rfl (by kernel_rfl)) rfl ?_
      exact ⟨rfl, HB3.out.trans (ho4.below (by omega))⟩
  · by_cases t0 : tp = 0
    · have ck : (a.x.k == 5) = false := by rw [beq_eq_false_iff_ne]; omega
      have e0 : (tp == 0) = true := by rw [beq_iff_eq]; omega
      have hv : (if false = true then some (5, x) else none) = o := by rw [← HO.out]; simp [t0, kk]
      have HV := Lib.hid hv
      clear hv kk t0
      go_wp2_with fail
      refine (literal_o 5 x false o HV.out w2).mono ?_
      rintro e w3 ⟨rfl, hb3⟩
      have HY3 := Lib.hid (HY.out.below hb3); have HB3 := Lib.hid (HW.out.trans (hb3.mono HW.out.size))
      clear hb3
      go_wp2_with (refine wpList_store_T rfl _ _ rfl rfl HY3.out (lv o) rfl ?_)
      intro w4 hv4 ho4
      go_wp2
      try simp only [Exit.inBlock, Exit.then]
      refine bodyPost_ret (te.results_cell_tmp rfl _ _ (w.heap.size + 1 + 1) _ _ _ rfl hv4 Try.underlying24 rfl (by kernel_rfl)) rfl ?_
      exact ⟨rfl, HB3.out.trans (ho4.below (by omega))⟩
    · have ck : (a.x.k == 5) = false := by rw [beq_eq_false_iff_ne]; omega
      have e0 : (tp == 0) = false := by rw [beq_eq_false_iff_ne]; omega
      have hv : (if false = true then some (5, x) else none) = o := by rw [← HO.out]; simp [t0, kk]
      have HV := Lib.hid hv
      clear hv kk t0
      go_wp2_with fail
      refine (literal_o 5 x false o HV.out w2).mono ?_
      rintro e w3 ⟨rfl, hb3⟩
      have HY3 := Lib.hid (HY.out.below hb3); have HB3 := Lib.hid (HW.out.trans (hb3.mono HW.out.size))
      clear hb3
      go_wp2_with (refine wpList_store_T rfl _ _ rfl rfl HY3.out (lv o) rfl ?_)
      intro w4 hv4 ho4
      go_wp2
      try simp only [Exit.inBlock, Exit.then]
      refine bodyPost_ret (te.results_cell_tmp rfl _ _ (w.heap.size + 1 + 1) _ _ _ rfl hv4 Try.underlying24 rfl (by kernel_rfl)) rfl ?_
      exact ⟨rfl, HB3.out.trans (ho4.below (by omega))⟩
set_option maxRecDepth 100000 in
set_option maxHeartbeats 4000000 in
theorem two_13 (a b : te.Vn) (w : World) (ha : a.Rd w) (hb : b.Rd w) : Calls Try.prog 46 #[.int .i64 13, a.val, b.val] w (VP (two 13 a.x.k a.x.n b.x.n) w) := by
  have hW : Below w.heap.size w (((w.alloc (.cells #[.int .i64 a.x.k, .int .i64 a.x.n, .string a.x.s, .slice a.a a.m a.c, .int .i64 a.x.f, .int .i64 a.x.t] 24)).alloc (.cells #[.int .i64 b.x.k, .int .i64 b.x.n, .string b.x.s, .slice b.a b.m b.c, .int .i64 b.x.f, .int .i64 b.x.t] 24)).alloc (.cells #[.int .i64 0, .int .i64 0, .string ⟨#[]⟩, .slice none 0 0, .int .i64 0, .int .i64 0] 24)) := (((Below.refl _ _).alloc (Nat.le_refl _) _).alloc (by simp only [te.size_alloc]; omega) _).alloc (by simp only [te.size_alloc]; omega) _
  have hX : VB (((w.alloc (.cells #[.int .i64 a.x.k, .int .i64 a.x.n, .string a.x.s, .slice a.a a.m a.c, .int .i64 a.x.f, .int .i64 a.x.t] 24)).alloc (.cells #[.int .i64 b.x.k, .int .i64 b.x.n, .string b.x.s, .slice b.a b.m b.c, .int .i64 b.x.f, .int .i64 b.x.t] 24)).alloc (.cells #[.int .i64 0, .int .i64 0, .string ⟨#[]⟩, .slice none 0 0, .int .i64 0, .int .i64 0] 24)) w.heap.size a := ((vb_new w a).below (below_alloc _ _)).below (below_alloc _ _)
  have hZ : VB (((w.alloc (.cells #[.int .i64 a.x.k, .int .i64 a.x.n, .string a.x.s, .slice a.a a.m a.c, .int .i64 a.x.f, .int .i64 a.x.t] 24)).alloc (.cells #[.int .i64 b.x.k, .int .i64 b.x.n, .string b.x.s, .slice b.a b.m b.c, .int .i64 b.x.f, .int .i64 b.x.t] 24)).alloc (.cells #[.int .i64 0, .int .i64 0, .string ⟨#[]⟩, .slice none 0 0, .int .i64 0, .int .i64 0] 24)) (w.heap.size + 1) b := by
    have := (vb_new (w.alloc (.cells #[.int .i64 a.x.k, .int .i64 a.x.n, .string a.x.s, .slice a.a a.m a.c, .int .i64 a.x.f, .int .i64 a.x.t] 24)) b).below (below_alloc _ (.cells #[.int .i64 0, .int .i64 0, .string ⟨#[]⟩, .slice none 0 0, .int .i64 0, .int .i64 0] 24))
    rwa [te.size_alloc] at this
  have hY : VB (((w.alloc (.cells #[.int .i64 a.x.k, .int .i64 a.x.n, .string a.x.s, .slice a.a a.m a.c, .int .i64 a.x.f, .int .i64 a.x.t] 24)).alloc (.cells #[.int .i64 b.x.k, .int .i64 b.x.n, .string b.x.s, .slice b.a b.m b.c, .int .i64 b.x.f, .int .i64 b.x.t] 24)).alloc (.cells #[.int .i64 0, .int .i64 0, .string ⟨#[]⟩, .slice none 0 0, .int .i64 0, .int .i64 0] 24)) (w.heap.size + 1 + 1) te.v0 := by
    have := vb_new0 ((w.alloc (.cells #[.int .i64 a.x.k, .int .i64 a.x.n, .string a.x.s, .slice a.a a.m a.c, .int .i64 a.x.f, .int .i64 a.x.t] 24)).alloc (.cells #[.int .i64 b.x.k, .int .i64 b.x.n, .string b.x.s, .slice b.a b.m b.c, .int .i64 b.x.f, .int .i64 b.x.t] 24))
    rwa [te.size_alloc, te.size_alloc] at this
  have hna : I6 a.x.n := ha.2.n
  have hnb : I6 b.x.n := hb.2.n
  have HT := Lib.hid (fun W => ((tw_tells 13 a.x.n b.x.n hna hnb).1 W).1)
  have HW := Lib.hid hW; have HX := Lib.hid hX; have HY := Lib.hid hY; have HZ := Lib.hid hZ
  obtain ⟨o, ho2⟩ : ∃ o, two 13 a.x.k a.x.n b.x.n = o := ⟨_, rfl⟩
  have HO := Lib.hid ho2
  rw [ho2]
  unfold two at HO
  obtain ⟨x, hx⟩ : ∃ x, (tw 13 a.x.n b.x.n).1 = x := ⟨_, rfl⟩
  obtain ⟨tp, ht⟩ : ∃ tp, (tw 13 a.x.n b.x.n).2.1 = tp := ⟨_, rfl⟩
  rw [hx, ht] at HT HO
  clear hW hX hY hZ ha hb hna hnb ho2 hx ht
  unfold te.Vn.val
  go_enter Try.func46, Try.ntmps46
  go_upto_region 1 with fail
  generalize hWW : (((w.alloc (.cells #[.int .i64 a.x.k, .int .i64 a.x.n, .string a.x.s, .slice a.a a.m a.c, .int .i64 a.x.f, .int .i64 a.x.t] 24)).alloc (.cells #[.int .i64 b.x.k, .int .i64 b.x.n, .string b.x.s, .slice b.a b.m b.c, .int .i64 b.x.f, .int .i64 b.x.t] 24)).alloc (.cells #[.int .i64 0, .int .i64 0, .string ⟨#[]⟩, .slice none 0 0, .int .i64 0, .int .i64 0] 24)) = W at HW HX HY HZ ⊢
  clear hWW
  have p0 := HX.out.cell 0; have p1 := HX.out.cell 1; have q1 := HZ.out.cell 1
  simp at p0 p1 q1
  go_wp2_with fail
  refine (HT.out W).mono ?_
  rintro e w2 ⟨rfl, rfl⟩
  by_cases kk : a.x.k = 5
  · by_cases t0 : tp = 0
    · have ck : (a.x.k == 5) = true := by rw [beq_iff_eq]; omega
      have e0 : (tp == 0) = true := by rw [beq_iff_eq]; omega
      have hv : (if true = true then some (5, x) else none) = o := by rw [← HO.out]; simp [t0, kk]
      have HV := Lib.hid hv
      clear hv kk t0
      go_wp2_with fail
      refine (literal_o 5 x true o HV.out w2).mono ?_
      rintro e w3 ⟨rfl, hb3⟩
      have HY3 := Lib.hid (HY.out.below hb3); have HB3 := Lib.hid (HW.out.trans (hb3.mono HW.out.size))
      clear hb3
      go_wp2_with (refine wpList_store_T rfl _ _ rfl rfl HY3.out (lv o) rfl ?_)
      intro w4 hv4 ho4
      go_wp2
      try simp only [Exit.inBlock, Exit.then]
      refine bodyPost_ret (te.results_cell_tmp rfl _ _ (w.heap.size + 1 + 1) _ _ _ rfl hv4 Try.underlying24 rfl (by kernel_rfl)) rfl ?_
      exact ⟨rfl, HB3.out.trans (ho4.below (by omega))⟩
    · have ck : (a.x.k == 5) = true := by rw [beq_iff_eq]; omega
      have e0 : (tp == 0) = false := by rw [beq_eq_false_iff_ne]; omega
      have hv : (if false = true then some (5, x) else none) = o := by rw [← HO.out]; simp [t0, kk]
      have HV := Lib.hid hv
      clear hv kk t0
      go_wp2_with fail
      refine (literal_o 5 x false o HV.out w2).mono ?_
      rintro e w3 ⟨rfl, hb3⟩
      have HY3 := Lib.hid (HY.out.below hb3); have HB3 := Lib.hid (HW.out.trans (hb3.mono HW.out.size))
      clear hb3
      go_wp2_with (refine wpList_store_T rfl _ _ rfl rfl HY3.out (lv o) rfl ?_)
      intro w4 hv4 ho4
      go_wp2
      try simp only [Exit.inBlock, Exit.then]
      refine bodyPost_ret (te.results_cell_tmp rfl _ _ (w.heap.size + 1 + 1) _ _ _ rfl hv4 Try.underlying24 rfl (by kernel_rfl)) rfl ?_
      exact ⟨rfl, HB3.out.trans (ho4.below (by omega))⟩
  · by_cases t0 : tp = 0
    · have ck : (a.x.k == 5) = false := by rw [beq_eq_false_iff_ne]; omega
      have e0 : (tp == 0) = true := by rw [beq_iff_eq]; omega
      have hv : (if false = true then some (5, x) else none) = o := by rw [← HO.out]; simp [t0, kk]
      have HV := Lib.hid hv
      clear hv kk t0
      go_wp2_with fail
      refine (literal_o 5 x false o HV.out w2).mono ?_
      rintro e w3 ⟨rfl, hb3⟩
      have HY3 := Lib.hid (HY.out.below hb3); have HB3 := Lib.hid (HW.out.trans (hb3.mono HW.out.size))
      clear hb3
      go_wp2_with (refine wpList_store_T rfl _ _ rfl rfl HY3.out (lv o) rfl ?_)
      intro w4 hv4 ho4
      go_wp2
      try simp only [Exit.inBlock, Exit.then]
      refine bodyPost_ret (te.results_cell_tmp rfl _ _ (w.heap.size + 1 + 1) _ _ _ rfl hv4 Try.underlying24 rfl (by kernel_rfl)) rfl ?_
      exact ⟨rfl, HB3.out.trans (ho4.below (by omega))⟩
    · have ck : (a.x.k == 5) = false := by rw [beq_eq_false_iff_ne]; omega
      have e0 : (tp == 0) = false := by rw [beq_eq_false_iff_ne]; omega
      have hv : (if false = true then some (5, x) else none) = o := by rw [← HO.out]; simp [t0, kk]
      have HV := Lib.hid hv
      clear hv kk t0
      go_wp2_with fail
      refine (literal_o 5 x false o HV.out w2).mono ?_
      rintro e w3 ⟨rfl, hb3⟩
      have HY3 := Lib.hid (HY.out.below hb3); have HB3 := Lib.hid (HW.out.trans (hb3.mono HW.out.size))
      clear hb3
      go_wp2_with (refine wpList_store_T rfl _ _ rfl rfl HY3.out (lv o) rfl ?_)
      intro w4 hv4 ho4
      go_wp2
      try simp only [Exit.inBlock, Exit.then]
      refine bodyPost_ret (te.results_cell_tmp rfl _ _ (w.heap.size + 1 + 1) _ _ _ rfl hv4 Try.underlying24 rfl (by kernel_rfl)) rfl ?_
      exact ⟨rfl, HB3.out.trans (ho4.below (by omega))⟩
set_option maxRecDepth 100000 in
set_option maxHeartbeats 4000000 in
theorem two_other (op : Int) (a b : te.Vn) (w : World) (ha : a.Rd w) (hb : b.Rd w) (n0 : op < 1 ∨ 13 < op) : Calls Try.prog 46 #[.int .i64 op, a.val, b.val] w (VP (two op a.x.k a.x.n b.x.n) w) := by
  have hW : Below w.heap.size w (((w.alloc (.cells #[.int .i64 a.x.k, .int .i64 a.x.n, .string a.x.s, .slice a.a a.m a.c, .int .i64 a.x.f, .int .i64 a.x.t] 24)).alloc (.cells #[.int .i64 b.x.k, .int .i64 b.x.n, .string b.x.s, .slice b.a b.m b.c, .int .i64 b.x.f, .int .i64 b.x.t] 24)).alloc (.cells #[.int .i64 0, .int .i64 0, .string ⟨#[]⟩, .slice none 0 0, .int .i64 0, .int .i64 0] 24)) := (((Below.refl _ _).alloc (Nat.le_refl _) _).alloc (by simp only [te.size_alloc]; omega) _).alloc (by simp only [te.size_alloc]; omega) _
  have hX : VB (((w.alloc (.cells #[.int .i64 a.x.k, .int .i64 a.x.n, .string a.x.s, .slice a.a a.m a.c, .int .i64 a.x.f, .int .i64 a.x.t] 24)).alloc (.cells #[.int .i64 b.x.k, .int .i64 b.x.n, .string b.x.s, .slice b.a b.m b.c, .int .i64 b.x.f, .int .i64 b.x.t] 24)).alloc (.cells #[.int .i64 0, .int .i64 0, .string ⟨#[]⟩, .slice none 0 0, .int .i64 0, .int .i64 0] 24)) w.heap.size a := ((vb_new w a).below (below_alloc _ _)).below (below_alloc _ _)
  have hZ : VB (((w.alloc (.cells #[.int .i64 a.x.k, .int .i64 a.x.n, .string a.x.s, .slice a.a a.m a.c, .int .i64 a.x.f, .int .i64 a.x.t] 24)).alloc (.cells #[.int .i64 b.x.k, .int .i64 b.x.n, .string b.x.s, .slice b.a b.m b.c, .int .i64 b.x.f, .int .i64 b.x.t] 24)).alloc (.cells #[.int .i64 0, .int .i64 0, .string ⟨#[]⟩, .slice none 0 0, .int .i64 0, .int .i64 0] 24)) (w.heap.size + 1) b := by
    have := (vb_new (w.alloc (.cells #[.int .i64 a.x.k, .int .i64 a.x.n, .string a.x.s, .slice a.a a.m a.c, .int .i64 a.x.f, .int .i64 a.x.t] 24)) b).below (below_alloc _ (.cells #[.int .i64 0, .int .i64 0, .string ⟨#[]⟩, .slice none 0 0, .int .i64 0, .int .i64 0] 24))
    rwa [te.size_alloc] at this
  have hY : VB (((w.alloc (.cells #[.int .i64 a.x.k, .int .i64 a.x.n, .string a.x.s, .slice a.a a.m a.c, .int .i64 a.x.f, .int .i64 a.x.t] 24)).alloc (.cells #[.int .i64 b.x.k, .int .i64 b.x.n, .string b.x.s, .slice b.a b.m b.c, .int .i64 b.x.f, .int .i64 b.x.t] 24)).alloc (.cells #[.int .i64 0, .int .i64 0, .string ⟨#[]⟩, .slice none 0 0, .int .i64 0, .int .i64 0] 24)) (w.heap.size + 1 + 1) te.v0 := by
    have := vb_new0 ((w.alloc (.cells #[.int .i64 a.x.k, .int .i64 a.x.n, .string a.x.s, .slice a.a a.m a.c, .int .i64 a.x.f, .int .i64 a.x.t] 24)).alloc (.cells #[.int .i64 b.x.k, .int .i64 b.x.n, .string b.x.s, .slice b.a b.m b.c, .int .i64 b.x.f, .int .i64 b.x.t] 24))
    rwa [te.size_alloc, te.size_alloc] at this
  have hna : I6 a.x.n := ha.2.n
  have hnb : I6 b.x.n := hb.2.n
  have HT := Lib.hid (fun W => ((tw_tells op a.x.n b.x.n hna hnb).1 W).1)
  have HW := Lib.hid hW; have HX := Lib.hid hX; have HY := Lib.hid hY; have HZ := Lib.hid hZ
  obtain ⟨o, ho2⟩ : ∃ o, two op a.x.k a.x.n b.x.n = o := ⟨_, rfl⟩
  have HO := Lib.hid ho2
  rw [ho2]
  unfold two at HO
  obtain ⟨x, hx⟩ : ∃ x, (tw op a.x.n b.x.n).1 = x := ⟨_, rfl⟩
  obtain ⟨tp, ht⟩ : ∃ tp, (tw op a.x.n b.x.n).2.1 = tp := ⟨_, rfl⟩
  rw [hx, ht] at HT HO
  clear hW hX hY hZ ha hb hna hnb ho2 hx ht
  unfold te.Vn.val
  go_enter Try.func46, Try.ntmps46
  go_upto_region 1 with fail
  generalize hWW : (((w.alloc (.cells #[.int .i64 a.x.k, .int .i64 a.x.n, .string a.x.s, .slice a.a a.m a.c, .int .i64 a.x.f, .int .i64 a.x.t] 24)).alloc (.cells #[.int .i64 b.x.k, .int .i64 b.x.n, .string b.x.s, .slice b.a b.m b.c, .int .i64 b.x.f, .int .i64 b.x.t] 24)).alloc (.cells #[.int .i64 0, .int .i64 0, .string ⟨#[]⟩, .slice none 0 0, .int .i64 0, .int .i64 0] 24)) = W at HW HX HY HZ ⊢
  clear hWW
  have p0 := HX.out.cell 0; have p1 := HX.out.cell 1; have q1 := HZ.out.cell 1
  simp at p0 p1 q1
  go_wp2_with fail
  refine (HT.out W).mono ?_
  rintro e w2 ⟨rfl, rfl⟩
  have c1 : (op == 1) = false := by rw [beq_eq_false_iff_ne]; omega
  have c2 : (op == 2) = false := by rw [beq_eq_false_iff_ne]; omega
  have c3 : (op == 3) = false := by rw [beq_eq_false_iff_ne]; omega
  have c4 : (op == 4) = false := by rw [beq_eq_false_iff_ne]; omega
  have c5 : (op == 5) = false := by rw [beq_eq_false_iff_ne]; omega
  have c6 : (op == 6) = false := by rw [beq_eq_false_iff_ne]; omega
  have c7 : (op == 7) = false := by rw [beq_eq_false_iff_ne]; omega
  have c8 : (op == 8) = false := by rw [beq_eq_false_iff_ne]; omega
  have c9 : (op == 9) = false := by rw [beq_eq_false_iff_ne]; omega
  have c10 : (op == 10) = false := by rw [beq_eq_false_iff_ne]; omega
  have c11 : (op == 11) = false := by rw [beq_eq_false_iff_ne]; omega
  have c12 : (op == 12) = false := by rw [beq_eq_false_iff_ne]; omega
  have c13 : (op == 13) = false := by rw [beq_eq_false_iff_ne]; omega
  have hv : (if false = true then some ((6 : Int), x) else none) = o := by
    rw [← HO.out, if_neg (by decide)]
    split
    · rw [if_neg (by omega), if_neg (by omega), if_neg (by omega), if_neg (by omega)]
    · rfl
  have HV := Lib.hid hv
  clear hv n0
  go_wp2_with fail
  refine (literal_o 6 x false o HV.out w2).mono ?_
  rintro e w3 ⟨rfl, hb3⟩
  have HY3 := Lib.hid (HY.out.below hb3); have HB3 := Lib.hid (HW.out.trans (hb3.mono HW.out.size))
  clear hb3
  go_wp2_with (refine wpList_store_T rfl _ _ rfl rfl HY3.out (lv o) rfl ?_)
  intro w4 hv4 ho4
  go_wp2
  try simp only [Exit.inBlock, Exit.then]
  refine bodyPost_ret (te.results_cell_tmp rfl _ _ (w.heap.size + 1 + 1) _ _ _ rfl hv4 Try.underlying24 rfl (by kernel_rfl)) rfl ?_
  exact ⟨rfl, HB3.out.trans (ho4.below (by omega))⟩
theorem two_any (op : Int) (a b : te.Vn) (w : World) (ha : a.Rd w) (hb : b.Rd w) : Calls Try.prog 46 #[.int .i64 op, a.val, b.val] w (VP (two op a.x.k a.x.n b.x.n) w) := by
  by_cases h1 : op = 1
  · subst h1; exact two_1 a b w ha hb
  by_cases h2 : op = 2
  · subst h2; exact two_2 a b w ha hb
  by_cases h3 : op = 3
  · subst h3; exact two_3 a b w ha hb
  by_cases h4 : op = 4
  · subst h4; exact two_4 a b w ha hb
  by_cases h5 : op = 5
  · subst h5; exact two_5 a b w ha hb
  by_cases h6 : op = 6
  · subst h6; exact two_6 a b w ha hb
  by_cases h7 : op = 7
  · subst h7; exact two_7 a b w ha hb
  by_cases h8 : op = 8
  · subst h8; exact two_8 a b w ha hb
  by_cases h9 : op = 9
  · subst h9; exact two_9 a b w ha hb
  by_cases h10 : op = 10
  · subst h10; exact two_10 a b w ha hb
  by_cases h11 : op = 11
  · subst h11; exact two_11 a b w ha hb
  by_cases h12 : op = 12
  · subst h12; exact two_12 a b w ha hb
  by_cases h13 : op = 13
  · subst h13; exact two_13 a b w ha hb
  exact two_other op a b w ha hb (by omega)
end Go.Proofs.Ytjjnboenehomgaa.fo
end
