/-
  Layer 19: slices of values of the call's own; slices.Clone; the document's Get.
-/
import Derived.Test.YtbpjaidfpacbfaaValGet
import Derived.Test.YtbpjaidfpacbfaaTreesOwn
import Derived.Deep.CutRange
import Derived.Lib.SliceRun
namespace Go.Proofs.Ytbpjaidfpacbfaa.va
open Go.ChangeShapes Go.WideShapes Go.ChangeAt Go.RowKit
open bs tr
set_option linter.unusedVariables false

theorem cells_len (x : Vn) : (Vn.cells x).length = 2 := rfl
theorem cells_one (x : Vn) : ∀ u ∈ Vn.cells x, u.oneCell' = true := by
  intro u hu
  simp [Vn.cells] at hu
  rcases hu with rfl | rfl <;> rfl
/-- Values in blocks of the call's own. -/
abbrev OwnV (w : World) (base : Nat) (a : Option Addr) (n c : Nat) (l : List Vn) : Prop := OwnS 2 Vn.cells w base 52 a n c l
theorem recT : RecT Try.prog 50 52 (.agg #[.int .i64 0, .slice none 0 0]) 2 32 := ⟨Try.underlying50, by kernel_rfl, rfl⟩

theorem OwnV.reads {S : Nat → Prop} {w : World} {base : Nat} {a n c} {l : List Vn} (h : OwnV w base a n c l) (hl : ∀ x ∈ l, x.Rs S w) : VSs S w a n c (l.map Vn.tr) := by
  refine Recs.map (E := fun w b o x => VAs S w b o (Vn.tr x)) Vn.tr ?_ (fun b o x _ _ h => h)
  refine OwnS.recs h (by decide) cells_len _ (fun b o x hx hc => ?_)
  exact VAs.intro (hl x hx) (by simpa using hc 0 _ rfl) (by simpa using hc 1 _ rfl)

/-- The nodes of a slice that came in. -/
theorem VSs.nodes {S : Nat → Prop} {w : World} {a n c} {l : List VT} (h : VSs S w a n c l) : ∃ L : List Vn, L.map Vn.tr = l ∧ (∀ x ∈ L, x.Rs S w) ∧ Src Vn.cells w a n c L := by
  have hlen := h.len
  obtain ⟨L, hLn, hL⟩ := choose_list n (fun i (v : Vn) => (∃ t, l[i]? = some t ∧ v.tr = t) ∧ v.Rs S w ∧ ∀ b off, a = some ⟨b, off, none⟩ → w.cell? ⟨b, off + i * 2, none⟩ = some (.int .i64 v.x) ∧ w.cell? ⟨b, off + i * 2 + 1, none⟩ = some (.slice v.a v.m v.c)) (fun i hi => by
    obtain ⟨b, off, x, ha, hb, hx, he⟩ := recs_at h hi
    obtain ⟨v, hv, hr, c0, c1⟩ := VAs.out he
    exact ⟨v, ⟨x, hx, hv⟩, hr, fun b' o' h' => by rw [ha] at h'; cases h'; exact ⟨c0, c1⟩⟩)
  refine ⟨L, ?_, ?_, ?_⟩
  · apply List.ext_getElem?
    intro i
    rw [List.getElem?_map]
    rcases Nat.lt_or_ge i n with hi | hi
    · have hx : L[i]? = some (L[i]'(by omega)) := List.getElem?_eq_getElem _
      obtain ⟨⟨t, ht, hvt⟩, _⟩ := hL i _ hx
      rw [hx, ht, ← hvt]; rfl
    · rw [List.getElem?_eq_none (by omega), List.getElem?_eq_none (by omega)]; rfl
  · intro x hx
    obtain ⟨i, hi, he⟩ := List.getElem_of_mem hx
    exact (hL i x (by rw [← he]; exact List.getElem?_eq_getElem hi)).2.1
  · have hR : Recs 2 (fun w b o (v : Vn) => w.cell? ⟨b, o, none⟩ = some (.int .i64 v.x) ∧ w.cell? ⟨b, o + 1, none⟩ = some (.slice v.a v.m v.c)) w a n c L := by
      refine ⟨hLn, h.cap, h.most, h.nil, ?_⟩
      rcases h.at' with h0 | ⟨b, off, ha, hlt, hc⟩
      · exact .inl h0
      · exact .inr ⟨b, off, ha, hlt, fun i x hi => (hL i x hi).2.2 b off ha⟩
    refine Recs.src hR cells_len (by decide) (fun b o x he j u hj => ?_)
    match j with
    | 0 => cases hj; exact he.1
    | 1 => cases hj; exact he.2
    | j + 2 => simp [Vn.cells] at hj

def ClP (L : List Vn) (n : Nat) (w : World) (e : Ending) (w' : World) : Prop := ∃ (a : Option Addr) (c : Nat), e = .returned (.slice a n c) ∧ OwnV w' w.heap.size a n c L ∧ Below w.heap.size w w'

set_option maxRecDepth 100000 in
set_option maxHeartbeats 1000000 in
theorem clone_any (a : Option Addr) (n c : Nat) (L : List Vn) (w : World) (hs : Src Vn.cells w a n c L) (hn : n ≤ 100000) : Calls Try.prog 70 #[.slice a n c] w (ClP L n w) := by
  rcases a with _ | ad
  · obtain ⟨h1, h2⟩ := hs.none rfl
    subst h1 h2
    have hL : L = [] := List.eq_nil_of_length_eq_zero hs.num
    subst hL
    clear hs
    have heq : ∀ W : World, (binOp .eql 50 (.slice none 0 0) (.slice none 0 0)).run Try.prog W = .ok (.bool true) W := fun W => Lib.run_eql_slice_nil W _ _ none 0 0 0 0 Try.underlying50
    go_enter Try.func70, Try.ntmps70
    go_wp2
    go_ret
    exact ⟨none, 0, rfl, OwnS.nil _ _ _, Below.refl _ _⟩
  · have ho := OwnS.made0 (size := 2) (cells := Vn.cells) w w.heap.size 52 (Nat.le_refl _)
    have hb : Below w.heap.size w (w.alloc (.cells #[] 52)) := (Below.refl _ _).alloc (Nat.le_refl _) _
    have HO := Lib.hid ho; have HB := Lib.hid hb; have HS := Lib.hid (hs.below hb)
    clear hs ho hb
    have heq : ∀ W : World, (binOp .eql 50 (.slice (some ad) n c) (.slice none 0 0)).run Try.prog W = .ok (.bool false) W := fun W => Lib.run_eql_slice_nil W _ _ (some ad) n c 0 0 Try.underlying50
    go_enter Try.func70, Try.ntmps70
    go_wp2_with (at_builtin; refine wpList_append_sm recT (by decide) cells_len cells_one rfl _ _ rfl w.heap.size rfl HO.out rfl HS.out (by unfold maxLen; omega) (by omega) HB.out.size ?_)
    intro a2 c2 w2 ho2 hb2 _
    have HO2 := Lib.hid ho2; have HB2 := Lib.hid (HB.out.trans hb2)
    clear ho2 hb2
    go_wp2
    go_ret
    refine ⟨a2, c2, by simp, ?_, HB2.out⟩
    have := HO2.out
    simpa using this

set_option maxRecDepth 100000 in
set_option maxHeartbeats 2000000 in
theorem rget_any (S : Nat → Prop) (p : List Int) : ∀ (v : Vn) (u : VT) (pa : Option Addr) (n c : Nat) (w : World), Tr.at' v.tr p = some u → v.Rs S w → (∀ b, S b → b < w.heap.size) → I64s w pa n c p → Calls Try.prog 45 #[v.val, .slice pa n c] w (fun e w' => ∃ x : Vn, e = .returned x.val ∧ x.tr = u ∧ x.Rs S w' ∧ Below w.heap.size w w') := by
  induction p with
  | nil =>
    intro v u pa n c w hat hv hS hp
    have hlen := hp.len
    have hn : n = 0 := hlen.symm
    subst hn
    rw [Tr.at_nil] at hat
    cases hat
    have hW1 : Below w.heap.size w ((w.alloc (.cells #[.int .i64 v.x, .slice v.a v.m v.c] 52)).alloc (.cells #[.int .i64 0, .slice none 0 0] 52)) := ((Below.refl _ _).alloc (Nat.le_refl _) _).alloc (by simp) _
    have hX : VB ((w.alloc (.cells #[.int .i64 v.x, .slice v.a v.m v.c] 52)).alloc (.cells #[.int .i64 0, .slice none 0 0] 52)) w.heap.size v := (Blk.new w _ _).below ((Below.refl _ _).alloc (Nat.le_refl _) _)
    have hY : VB ((w.alloc (.cells #[.int .i64 v.x, .slice v.a v.m v.c] 52)).alloc (.cells #[.int .i64 0, .slice none 0 0] 52)) (w.heap.size + 1) v0 := by
      have := Blk.new (w.alloc (.cells #[.int .i64 v.x, .slice v.a v.m v.c] 52)) #[.int .i64 0, .slice none 0 0] 52
      unfold VB
      rw [v0_cells]
      simpa using this
    have HW := Lib.hid hW1; have HX := Lib.hid hX; have HY := Lib.hid hY; have HV := Lib.hid hv
    clear hv hp hW1 hX hY hlen
    unfold Vn.val
    go_enter Try.func45, Try.ntmps45
    go_upto_region 2 with fail
    generalize hWW : ((w.alloc (.cells #[.int .i64 v.x, .slice v.a v.m v.c] 52)).alloc (.cells #[.int .i64 0, .slice none 0 0] 52)) = W at HW HX HY ⊢
    clear hWW
    have p0 := HX.out.cell 0; have p1 := HX.out.cell 1
    have q0 := HY.out.cell 0; have q1 := HY.out.cell 1
    have g0 := HY.out.free 0; have g1 := HY.out.free 1
    simp [v0] at p0 p1 q0 q1
    go_wp2
    try simp only [Exit.inBlock, Exit.then]
    refine bodyPost_ret (results_cell_row rfl _ _ (w.heap.size + 1) _ #[.int .i64 v.x, .slice v.a v.m v.c] _ _ rfl (by have := (HY.out.set 0 (.int .i64 v.x)).set 1 (.slice v.a v.m v.c); simpa [Blk] using this) Try.underlying52 rfl (by kernel_rfl)) rfl ?_
    have hbb : Below w.heap.size w ((W.setCell ⟨w.heap.size + 1, 0, none⟩ (.int .i64 v.x)).setCell ⟨w.heap.size + 1, 1, none⟩ (.slice v.a v.m v.c)) := (HW.out.setCell (by simp) _).setCell (by simp) _
    exact ⟨v, rfl, rfl, HV.out.below hbb, hbb⟩
  | cons z p ih =>
    intro v u pa n c w hat hv hS hp
    obtain ⟨q, y, rfl, hq, hy, hu⟩ := Tr.at_some hat
    have hcap := hp.cap; have hmost := hp.most
    have hlen : p.length + 1 = n := hp.len
    subst hlen
    obtain ⟨x, va, m, vc, l⟩ := v
    have hW1 : Below w.heap.size w ((w.alloc (.cells #[.int .i64 x, .slice va m vc] 52)).alloc (.cells #[.int .i64 0, .slice none 0 0] 52)) := ((Below.refl _ _).alloc (Nat.le_refl _) _).alloc (by simp) _
    have hX : Blk ((w.alloc (.cells #[.int .i64 x, .slice va m vc] 52)).alloc (.cells #[.int .i64 0, .slice none 0 0] 52)) w.heap.size #[.int .i64 x, .slice va m vc] 52 := (Blk.new w _ _).below ((Below.refl _ _).alloc (Nat.le_refl _) _)
    have hY : VB ((w.alloc (.cells #[.int .i64 x, .slice va m vc] 52)).alloc (.cells #[.int .i64 0, .slice none 0 0] 52)) (w.heap.size + 1) v0 := by
      have := Blk.new (w.alloc (.cells #[.int .i64 x, .slice va m vc] 52)) #[.int .i64 0, .slice none 0 0] 52
      unfold VB
      rw [v0_cells]
      simpa using this
    have hp1 := hp.below hW1
    have hv1 := hv.below hW1
    obtain ⟨hvl, hvs, hvx⟩ := hv1
    dsimp only at hvl hvs hvx
    have hcapx := hvl.cap; have hmostx := hvl.most
    have hlx := hvl.len
    have hqm : q < m := by rw [← hlx]; exact hq
    rcases hp1.at' with h0 | ⟨b, off, rfl, hcell⟩
    · omega
    have hz := hcell 0 (by omega)
    simp only [List.getD_cons_zero, Nat.add_zero] at hz
    obtain ⟨b1, o1, x1, rfl, hb1, hx1, hc1⟩ := recs_at hvl hqm
    obtain ⟨v1, hv1, hr1, c10, c11⟩ := VAs.out hc1
    obtain ⟨z1, aa1, am1, ac1, al1⟩ := v1
    dsimp only at c10 c11
    have hyx : x1 = y := Option.some.inj (hx1.symm.trans hy)
    have hu1 : Tr.at' (Vn.tr ⟨z1, aa1, am1, ac1, al1⟩) p = some u := by rw [hv1, hyx]; exact hu
    have HW := Lib.hid hW1; have HX := Lib.hid hX; have HY := Lib.hid hY
    have HR1 := Lib.hid hr1; have HU1 := Lib.hid hu1
    have HTL := Lib.hid (tail_i64s hp1 1 (by omega))
    have HIH := Lib.hid ih; have HS := Lib.hid hS
    have hs := fun W => slice_tail_i (some ⟨b, off, none⟩) (p.length + 1) c 1 1 rfl (by omega) hcap hmost (by simp) W
    clear hS hv hp hp1 hW1 hX hY hvl hvs hcell hlx ih hat hy hu hc1 hr1 hu1 hv1 hx1 hyx hq
    unfold Vn.val
    go_enter Try.func45, Try.ntmps45
    go_wp2_with fail
    generalize hWW : ((w.alloc (.cells #[.int .i64 x, .slice (some ⟨b1, o1, none⟩) m vc] 52)).alloc (.cells #[.int .i64 0, .slice none 0 0] 52)) = W at HW HX HY HR1 HTL hz c10 c11 ⊢
    clear hWW
    have p0 := HX.out.cell 0
    have p1 := HX.out.cell 1
    simp at p0 p1
    go_still_tail 9, (by kernel_rfl)
    change wpList _ _ _ _ _ (W.drewN 1)
    have hdl : Below W.heap.size W (W.drewN 1) := below_drewN (Below.refl _ _) 1
    have HDL := Lib.hid hdl
    clear hdl
    go_wp2_with fail
    refine (HIH.out ⟨z1, aa1, am1, ac1, al1⟩ u _ _ _ _ HU1.out (HR1.out.below HDL.out) (fun b hb => Nat.lt_of_lt_of_le (HS.out b hb) HW.out.size) (HTL.out.below HDL.out)).mono ?_
    rintro e w2 ⟨r, rfl, hr, hrd, hb⟩
    have hbW : Below W.heap.size W w2 := HDL.out.trans hb
    have hY2 := HY.out.below hbW
    have HY2 := Lib.hid hY2
    have HRD := Lib.hid hrd; have HRR := Lib.hid hr
    have HB := Lib.hid (HW.out.trans (hbW.mono HW.out.size))
    have hgs : w.heap.size + 1 < w2.heap.size := hY2.lt
    clear hr hrd hb hbW hY2 p0 p1 c10 c11 hz
    have q0 := HY2.out.cell 0; have q1 := HY2.out.cell 1
    have g0 := HY2.out.free 0; have g1 := HY2.out.free 1
    simp [v0] at q0 q1
    unfold Vn.val
    go_wp2
    try simp only [Exit.inBlock, Exit.then]
    refine bodyPost_ret (results_cell_row rfl _ _ (w.heap.size + 1) _ #[.int .i64 r.x, .slice r.a r.m r.c] _ _ rfl (by have := (HY2.out.set 0 (.int .i64 r.x)).set 1 (.slice r.a r.m r.c); simpa [Blk] using this) Try.underlying52 rfl (by kernel_rfl)) rfl ?_
    have hbb : Below w.heap.size w2 ((w2.setCell ⟨w.heap.size + 1, 0, none⟩ (.int .i64 r.x)).setCell ⟨w.heap.size + 1, 1, none⟩ (.slice r.a r.m r.c)) := ((Below.refl _ _).setCell (by simp) _).setCell (by simp) _
    exact ⟨r, rfl, HRR.out, HRD.out.agree ⟨hbb.size, fun b hb _ => hbb.block b (HS.out b hb)⟩, HB.out.trans hbb⟩
end Go.Proofs.Ytbpjaidfpacbfaa.va
