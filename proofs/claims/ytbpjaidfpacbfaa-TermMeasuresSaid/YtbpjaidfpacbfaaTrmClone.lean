/-
  Layer 6: slices of values of the call's own; slices.Clone; the document's Get.
-/
import Derived.Test.YtbpjaidfpacbfaaTrmGet
import Derived.Test.YtbpjaidfpacbfaaTreesOwn
import Derived.Deep.CutRange
import Derived.Lib.SliceRun
namespace Go.Proofs.Ytbpjaidfpacbfaa.te
open Go.ChangeShapes Go.WideShapes Go.ChangeAt Go.RowKit
open bs tr
set_option linter.unusedVariables false

theorem cells_len (x : Vn) : (Vn.cells x).length = 6 := rfl
theorem cells_one (x : Vn) : ∀ u ∈ Vn.cells x, u.oneCell' = true := by
  intro u hu
  simp [Vn.cells] at hu
  rcases hu with rfl | rfl | rfl | rfl | rfl | rfl <;> rfl
/-- Terms in blocks of the call's own. -/
abbrev OwnV (w : World) (base : Nat) (a : Option Addr) (n c : Nat) (l : List Vn) : Prop := OwnS 6 Vn.cells w base 24 a n c l
theorem recT : RecT Try.prog 22 24 (.agg #[.int .i64 0, .int .i64 0, .string ⟨#[]⟩, .slice none 0 0, .int .i64 0, .int .i64 0]) 6 72 := ⟨Try.underlying22, by kernel_rfl, rfl⟩

theorem six_of {w : World} {b o : Nat} {x : Vn} (hc : ∀ j u, (Vn.cells x)[j]? = some u → w.cell? ⟨b, o + j, none⟩ = some u) : Six w b o x :=
  ⟨hc 0 _ rfl, hc 3 _ rfl, hc 1 _ rfl, hc 2 _ rfl, hc 4 _ rfl, hc 5 _ rfl⟩
theorem Six.all {w : World} {b o : Nat} {x : Vn} (h : Six w b o x) : ∀ j u, (Vn.cells x)[j]? = some u → w.cell? ⟨b, o + j, none⟩ = some u := by
  intro j u hj
  match j with
  | 0 => cases hj; exact h.c0
  | 1 => cases hj; exact h.c2
  | 2 => cases hj; exact h.c3
  | 3 => cases hj; exact h.c1
  | 4 => cases hj; exact h.c4
  | 5 => cases hj; exact h.c5
  | j + 6 => simp [Vn.cells] at hj

theorem OwnV.reads {S : Nat → Prop} {w : World} {base : Nat} {a n c} {l : List Vn} (h : OwnV w base a n c l) (hl : ∀ x ∈ l, x.Rs S w) : VSs S w a n c (l.map Vn.tr) := by
  refine Recs.map (E := fun w b o x => VAs S w b o (Vn.tr x)) Vn.tr ?_ (fun b o x _ _ h => h)
  refine OwnS.recs h (by decide) cells_len _ (fun b o x hx hc => ?_)
  exact VAs.intro (hl x hx) (six_of hc)

/-- The nodes of a slice that came in. -/
theorem VSs.nodes {S : Nat → Prop} {w : World} {a n c} {l : List VT} (h : VSs S w a n c l) : ∃ L : List Vn, L.map Vn.tr = l ∧ (∀ x ∈ L, x.Rs S w) ∧ Src Vn.cells w a n c L := by
  have hlen := h.len
  obtain ⟨L, hLn, hL⟩ := choose_list n (fun i (v : Vn) => (∃ t, l[i]? = some t ∧ v.tr = t) ∧ v.Rs S w ∧ ∀ b off, a = some ⟨b, off, none⟩ → Six w b (off + i * 6) v) (fun i hi => by
    obtain ⟨b, off, x, ha, hb, hx, he⟩ := recs_at h hi
    obtain ⟨v, hv, hr, c0, c1, c2, c3, c4, c5⟩ := VAs.out he
    exact ⟨v, ⟨x, hx, hv⟩, hr, fun b' o' h' => by rw [ha] at h'; cases h'; exact ⟨c0, c1, c2, c3, c4, c5⟩⟩)
  refine ⟨L, ?_, ?_, ?_⟩
  · apply List.ext_getElem?
    intro i
    rw [List.getElem?_map]
    rcases Nat.lt_or_ge i n with hi | hi
    · have hx : L[i]? = some (L[i]'(by omega)) := List.getElem?_eq_getElem _
      obtain ⟨⟨t, ht, hvt⟩, _⟩ := hL i _ hx
      rw [hx, ht, ← hvt]; rfl
    · rw [List.getElem?_eq_none (by omega), List.getElem?_eq_none (by omega)]; rfl
  · intro x hx
    obtain ⟨i, hi, he⟩ := List.getElem_of_mem hx
    exact (hL i x (by rw [← he]; exact List.getElem?_eq_getElem hi)).2.1
  · have hR : Recs 6 (fun w b o (v : Vn) => Six w b o v) w a n c L := by
      refine ⟨hLn, h.cap, h.most, h.nil, ?_⟩
      rcases h.at' with h0 | ⟨b, off, ha, hlt, hc⟩
      · exact .inl h0
      · exact .inr ⟨b, off, ha, hlt, fun i x hi => (hL i x hi).2.2 b off ha⟩
    exact Recs.src hR cells_len (by decide) (fun b o x he j u hj => he.all j u hj)

def ClP (L : List Vn) (n : Nat) (w : World) (e : Ending) (w' : World) : Prop := ∃ (a : Option Addr) (c : Nat), e = .returned (.slice a n c) ∧ OwnV w' w.heap.size a n c L ∧ Below w.heap.size w w'

set_option maxRecDepth 100000 in
set_option maxHeartbeats 1000000 in
theorem clone_any (a : Option Addr) (n c : Nat) (L : List Vn) (w : World) (hs : Src Vn.cells w a n c L) (hn : n ≤ 100000) : Calls Try.prog 66 #[.slice a n c] w (ClP L n w) := by
  rcases a with _ | ad
  · obtain ⟨h1, h2⟩ := hs.none rfl
    subst h1 h2
    have hL : L = [] := List.eq_nil_of_length_eq_zero hs.num
    subst hL
    clear hs
    have heq : ∀ W : World, (binOp .eql 22 (.slice none 0 0) (.slice none 0 0)).run Try.prog W = .ok (.bool true) W := fun W => Lib.run_eql_slice_nil W _ _ none 0 0 0 0 Try.underlying22
    go_enter Try.func66, Try.ntmps66
    go_wp2
    go_ret
    exact ⟨none, 0, rfl, OwnS.nil _ _ _, Below.refl _ _⟩
  · have ho := OwnS.made0 (size := 6) (cells := Vn.cells) w w.heap.size 24 (Nat.le_refl _)
    have hb : Below w.heap.size w (w.alloc (.cells #[] 24)) := (Below.refl _ _).alloc (Nat.le_refl _) _
    have HO := Lib.hid ho; have HB := Lib.hid hb; have HS := Lib.hid (hs.below hb)
    clear hs ho hb
    have heq : ∀ W : World, (binOp .eql 22 (.slice (some ad) n c) (.slice none 0 0)).run Try.prog W = .ok (.bool false) W := fun W => Lib.run_eql_slice_nil W _ _ (some ad) n c 0 0 Try.underlying22
    go_enter Try.func66, Try.ntmps66
    go_wp2_with (at_builtin; refine wpList_append_sm recT (by decide) cells_len cells_one rfl _ _ rfl w.heap.size rfl HO.out rfl HS.out (by unfold maxLen; omega) (by omega) HB.out.size ?_)
    intro a2 c2 w2 ho2 hb2 _
    have HO2 := Lib.hid ho2; have HB2 := Lib.hid (HB.out.trans hb2)
    clear ho2 hb2
    go_wp2
    go_ret
    refine ⟨a2, c2, by simp, ?_, HB2.out⟩
    have := HO2.out
    simpa using this

set_option maxRecDepth 100000 in
set_option maxHeartbeats 2000000 in
theorem rget_any (S : Nat → Prop) (p : List Int) : ∀ (v : Vn) (u : VT) (pa : Option Addr) (n c : Nat) (w : World), Tr.at' v.tr p = some u → v.Rs S w → (∀ b, S b → b < w.heap.size) → I64s w pa n c p → Calls Try.prog 25 #[v.val, .slice pa n c] w (fun e w' => ∃ x : Vn, e = .returned x.val ∧ x.tr = u ∧ x.Rs S w' ∧ Below w.heap.size w w') := by
  induction p with
  | nil =>
    intro v u pa n c w hat hv hS hp
    have hlen := hp.len
    have hn : n = 0 := hlen.symm
    subst hn
    rw [Tr.at_nil] at hat
    cases hat
    have hW1 : Below w.heap.size w ((w.alloc (.cells #[.int .i64 v.x.k, .int .i64 v.x.n, .string v.x.s, .slice v.a v.m v.c, .int .i64 v.x.f, .int .i64 v.x.t] 24)).alloc (.cells #[.int .i64 0, .int .i64 0, .string ⟨#[]⟩, .slice none 0 0, .int .i64 0, .int .i64 0] 24)) := ((Below.refl _ _).alloc (Nat.le_refl _) _).alloc (by simp) _
    have hX : VB ((w.alloc (.cells #[.int .i64 v.x.k, .int .i64 v.x.n, .string v.x.s, .slice v.a v.m v.c, .int .i64 v.x.f, .int .i64 v.x.t] 24)).alloc (.cells #[.int .i64 0, .int .i64 0, .string ⟨#[]⟩, .slice none 0 0, .int .i64 0, .int .i64 0] 24)) w.heap.size v := (Blk.new w _ _).below ((Below.refl _ _).alloc (Nat.le_refl _) _)
    have hY : VB ((w.alloc (.cells #[.int .i64 v.x.k, .int .i64 v.x.n, .string v.x.s, .slice v.a v.m v.c, .int .i64 v.x.f, .int .i64 v.x.t] 24)).alloc (.cells #[.int .i64 0, .int .i64 0, .string ⟨#[]⟩, .slice none 0 0, .int .i64 0, .int .i64 0] 24)) (w.heap.size + 1) v0 := by
      have := Blk.new (w.alloc (.cells #[.int .i64 v.x.k, .int .i64 v.x.n, .string v.x.s, .slice v.a v.m v.c, .int .i64 v.x.f, .int .i64 v.x.t] 24)) #[.int .i64 0, .int .i64 0, .string ⟨#[]⟩, .slice none 0 0, .int .i64 0, .int .i64 0] 24
      unfold VB
      rw [v0_cells]
      simpa using this
    have HW := Lib.hid hW1; have HX := Lib.hid hX; have HY := Lib.hid hY; have HV := Lib.hid hv
    clear hv hp hW1 hX hY hlen
    unfold Vn.val
    go_enter Try.func25, Try.ntmps25
    go_upto_region 2 with fail
    generalize hWW : ((w.alloc (.cells #[.int .i64 v.x.k, .int .i64 v.x.n, .string v.x.s, .slice v.a v.m v.c, .int .i64 v.x.f, .int .i64 v.x.t] 24)).alloc (.cells #[.int .i64 0, .int .i64 0, .string ⟨#[]⟩, .slice none 0 0, .int .i64 0, .int .i64 0] 24)) = W at HW HX HY ⊢
    clear hWW
    go_wp2_with (first | (refine wpList_load_T rfl _ rfl rfl HX.out ?_) | (refine wpList_store_T rfl _ _ rfl rfl HY.out v rfl ?_))
    intro w2 hv2 ho2
    go_wp2
    try simp only [Exit.inBlock, Exit.then]
    refine bodyPost_ret (results_cell_row rfl _ _ (w.heap.size + 1) _ _ _ _ rfl hv2 Try.underlying24 rfl (by kernel_rfl)) rfl ?_
    have hbb : Below w.heap.size w w2 := HW.out.trans (ho2.below (by omega))
    exact ⟨v, rfl, rfl, HV.out.below hbb, hbb⟩
  | cons z p ih =>
    intro v u pa n c w hat hv hS hp
    obtain ⟨q, y, rfl, hq, hy, hu⟩ := Tr.at_some hat
    have hcap := hp.cap; have hmost := hp.most
    have hlen : p.length + 1 = n := hp.len
    subst hlen
    obtain ⟨x, va, m, vc, l⟩ := v
    have hW1 : Below w.heap.size w ((w.alloc (.cells #[.int .i64 x.k, .int .i64 x.n, .string x.s, .slice va m vc, .int .i64 x.f, .int .i64 x.t] 24)).alloc (.cells #[.int .i64 0, .int .i64 0, .string ⟨#[]⟩, .slice none 0 0, .int .i64 0, .int .i64 0] 24)) := ((Below.refl _ _).alloc (Nat.le_refl _) _).alloc (by simp) _
    have hX : Blk ((w.alloc (.cells #[.int .i64 x.k, .int .i64 x.n, .string x.s, .slice va m vc, .int .i64 x.f, .int .i64 x.t] 24)).alloc (.cells #[.int .i64 0, .int .i64 0, .string ⟨#[]⟩, .slice none 0 0, .int .i64 0, .int .i64 0] 24)) w.heap.size #[.int .i64 x.k, .int .i64 x.n, .string x.s, .slice va m vc, .int .i64 x.f, .int .i64 x.t] 24 := (Blk.new w _ _).below ((Below.refl _ _).alloc (Nat.le_refl _) _)
    have hY : VB ((w.alloc (.cells #[.int .i64 x.k, .int .i64 x.n, .string x.s, .slice va m vc, .int .i64 x.f, .int .i64 x.t] 24)).alloc (.cells #[.int .i64 0, .int .i64 0, .string ⟨#[]⟩, .slice none 0 0, .int .i64 0, .int .i64 0] 24)) (w.heap.size + 1) v0 := by
      have := Blk.new (w.alloc (.cells #[.int .i64 x.k, .int .i64 x.n, .string x.s, .slice va m vc, .int .i64 x.f, .int .i64 x.t] 24)) #[.int .i64 0, .int .i64 0, .string ⟨#[]⟩, .slice none 0 0, .int .i64 0, .int .i64 0] 24
      unfold VB
      rw [v0_cells]
      simpa using this
    have hp1 := hp.below hW1
    have hv1 := hv.below hW1
    obtain ⟨hvl, hvs, hvx⟩ := hv1
    dsimp only at hvl hvs hvx
    have hcapx := hvl.cap; have hmostx := hvl.most
    have hlx := hvl.len
    have hqm : q < m := by rw [← hlx]; exact hq
    rcases hp1.at' with h0 | ⟨b, off, rfl, hcell⟩
    · omega
    have hz := hcell 0 (by omega)
    simp only [List.getD_cons_zero, Nat.add_zero] at hz
    obtain ⟨b1, o1, x1, rfl, hb1, hx1, hc1⟩ := recs_at hvl hqm
    obtain ⟨v1, hv1, hr1, c10, c11, c12, c13, c14, c15⟩ := VAs.out hc1
    obtain ⟨z1, aa1, am1, ac1, al1⟩ := v1
    dsimp only at c10 c11 c12 c13 c14 c15
    have hyx : x1 = y := Option.some.inj (hx1.symm.trans hy)
    have hu1 : Tr.at' (Vn.tr ⟨z1, aa1, am1, ac1, al1⟩) p = some u := by rw [hv1, hyx]; exact hu
    have HW := Lib.hid hW1; have HX := Lib.hid hX; have HY := Lib.hid hY
    have HR1 := Lib.hid hr1; have HU1 := Lib.hid hu1
    have HTL := Lib.hid (tail_i64s hp1 1 (by omega))
    have HIH := Lib.hid ih; have HS := Lib.hid hS
    have hs := fun W => slice_tail_i (some ⟨b, off, none⟩) (p.length + 1) c 1 1 rfl (by omega) hcap hmost (by simp) W
    clear hS hv hp hp1 hW1 hX hY hvl hvs hcell hlx ih hat hy hu hc1 hr1 hu1 hv1 hx1 hyx hq
    unfold Vn.val
    go_enter Try.func25, Try.ntmps25
    go_wp2_with fail
    generalize hWW : ((w.alloc (.cells #[.int .i64 x.k, .int .i64 x.n, .string x.s, .slice (some ⟨b1, o1, none⟩) m vc, .int .i64 x.f, .int .i64 x.t] 24)).alloc (.cells #[.int .i64 0, .int .i64 0, .string ⟨#[]⟩, .slice none 0 0, .int .i64 0, .int .i64 0] 24)) = W at HW HX HY HR1 HTL hz c10 c11 c12 c13 c14 c15 ⊢
    clear hWW
    have p0 := HX.out.cell 0; have p1 := HX.out.cell 3; have p2 := HX.out.cell 1; have p3 := HX.out.cell 2; have p4 := HX.out.cell 4; have p5 := HX.out.cell 5
    simp at p0 p1 p2 p3 p4 p5
    go_still_tail 9, (by kernel_rfl)
    change wpList _ _ _ _ _ (W.drewN 1)
    have hdl : Below W.heap.size W (W.drewN 1) := below_drewN (Below.refl _ _) 1
    have HDL := Lib.hid hdl
    clear hdl
    go_wp2_with fail
    refine (HIH.out ⟨z1, aa1, am1, ac1, al1⟩ u _ _ _ _ HU1.out (HR1.out.below HDL.out) (fun b hb => Nat.lt_of_lt_of_le (HS.out b hb) HW.out.size) (HTL.out.below HDL.out)).mono ?_
    rintro e w2 ⟨r, rfl, hr, hrd, hb⟩
    have hbW : Below W.heap.size W w2 := HDL.out.trans hb
    have hY2 := HY.out.below hbW
    have HY2 := Lib.hid hY2
    have HRD := Lib.hid hrd; have HRR := Lib.hid hr
    have HB := Lib.hid (HW.out.trans (hbW.mono HW.out.size))
    have hgs : w.heap.size + 1 < w2.heap.size := hY2.lt
    clear hr hrd hb hbW hY2
    go_wp2_with (refine wpList_store_T rfl _ _ rfl rfl HY2.out r rfl ?_)
    intro w3 hv3 ho3
    go_wp2
    try simp only [Exit.inBlock, Exit.then]
    refine bodyPost_ret (results_cell_row rfl _ _ (w.heap.size + 1) _ _ _ _ rfl hv3 Try.underlying24 rfl (by kernel_rfl)) rfl ?_
    have hbb : Below w.heap.size w w3 := HB.out.trans (ho3.below (by omega))
    exact ⟨r, rfl, HRR.out, HRD.out.agree (ho3.kp (fun b hb => by have := HS.out b hb; omega)), hbb⟩
end Go.Proofs.Ytbpjaidfpacbfaa.te
