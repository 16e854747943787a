/-
  Layer 5: the program's Tokens.
-/
import Derived.Test.YtlfhdjlgjekcpaaDoorLexToken
import Derived.Test.YtlfhdjlgjekcpaaDoorLexBlanks
import Derived.Test.YtlfhdjlgjekcpaaDoorLexToks
import Derived.Test.YtlfhdjlgjekcpaaDoorOwnRecs
import Derived.Deep.RegionHeldLaw
import Derived.OwnWalk
namespace Go.Proofs.YtlfhdjlgjekcpaaDoor.lx
open Go.ChangeShapes Go.WideShapes Go.ChangeAt Go.RowKit
open bs
set_option linter.unusedVariables false

theorem tkT : RecT Tryd.prog 22 31 (.agg #[.int .i64 0, .int .i64 0, .string ⟨#[]⟩, .int .i64 0, .int .i64 0]) 5 48 := ⟨Tryd.underlying22, by kernel_rfl, rfl⟩
abbrev OwnK (w : World) (base : Nat) (a : Option Addr) (n c : Nat) (L : List Tk) : Prop := OwnS 5 Tk.cells w base 31 a n c L
theorem OwnS.blockLt {α : Type} {size : Nat} {cells : α → List Value} {w : World} {base : Nat} {e a n c} {L : List α} (h : OwnS size cells w base e a n c L) {i : Nat} (hi : blockOf a = some i) : base ≤ i ∧ i < w.heap.size := by
  rcases h.cases with ⟨rfl, _, _⟩ | ⟨g, rfl, hg, hs, _, _⟩
  · cases hi
  · cases hi; exact ⟨hg, hs⟩
theorem OwnS.of {α : Type} {size : Nat} {cells : α → List Value} {w w' : World} {base : Nat} {e a n c} {L : List α} (h : OwnS size cells w base e a n c L) (hk : ∀ i, blockOf a = some i → w'.heap[i]? = w.heap[i]?) : OwnS size cells w' base e a n c L := by
  refine ⟨⟨h.own.1, ?_⟩, h.num⟩
  rcases h.own.2 with ⟨hv, hn⟩ | ⟨g, cap, cur, hv, hg, hh, r⟩
  · exact .inl ⟨hv, hn⟩
  · refine .inr ⟨g, cap, cur, hv, hg, ?_, r⟩
    simp only [Value.slice.injEq] at hv
    rw [hk g (by rw [hv.1]; rfl)]; exact hh
/-- Tokens that can be read. -/
abbrev KS (w : World) (a : Option Addr) (n c : Nat) (L : List Tk) : Prop := Recs 5 (fun w b o (x : Tk) => ∀ j u, x.cells[j]? = some u → w.cell? ⟨b, o + j, none⟩ = some u) w a n c L
theorem ks_stays : Stays (fun w b o (x : Tk) => ∀ j u, x.cells[j]? = some u → w.cell? ⟨b, o + j, none⟩ = some u) := fun w w' b o x h hb hbel j u hj => by
  rw [hbel.cell (p := ⟨b, o + j, none⟩) hb]; exact h j u hj
theorem OwnS.toks {w : World} {base : Nat} {a n c} {L : List Tk} (h : OwnK w base a n c L) : KS w a n c L := OwnS.recs h (by decide) row_len _ (fun b o x _ hc => hc)

section
variable {w : World} {ops : Array Oper} {rest : List Oper} {o : Oper} {a : Act} {Q : Exit → Act → World → Prop}
theorem wpList_append_k (hw : Region.wanted o (yielded ops a.tmps) = true) (s y : Operand) (ho : o.op = .call { callee := .builtin .append, args := #[s, y], argTypes := #[22, 22] })
    (base : Nat) {b n c} {l : List Tk} (hs : a.eval s = .slice b n c) (h : OwnK w base b n c l) {ad c'} (hy : a.eval y = .slice (some ad) 1 c') (x : Tk)
    (hc : ∀ j u, x.cells[j]? = some u → w.cell? (ad.add j) = some u) (hn : n + 1 ≤ 1000000) (hbase : base ≤ w.heap.size)
    (k : ∀ a2 c2 w', OwnK w' base a2 (n + 1) c2 (l ++ [x]) → Below base w w' → w.grownBy w' (blockOf b) → wpList Tryd.prog ops Q rest (a.put o.dst (.slice a2 (n + 1) c2)) w') : wpList Tryd.prog ops Q (o :: rest) a w :=
  BigFrame.wpList_want hw fun K hK => by
    obtain ⟨a2, c2, w', hr, h2, h3, h4⟩ := run_append_s tkT (by decide) o.type w base h x rfl (cells_one x) ad c' hc (by unfold maxLen; omega) (by omega) hbase
    rw [ownBlock_eq] at h4
    unfold Oper.wp execOp
    simp only [ho, resolve, invoke, builtin, Sem.run_bind, Sem.run_pure, Result.andThen_ok, List.map_toArray, List.map_cons, List.map_nil, hs, hy, hr]
    exact hK _ _ (k a2 c2 w' h2 h3 h4)
end

theorem only_cell (w : World) (g j : Nat) (u : Value) : Only w (w.setCell ⟨g, j, none⟩ u) g := ⟨rfl, rfl, rfl, by simp [World.setCell], fun k hk => Below.heap_setCell _ ⟨g, j, none⟩ _ k hk⟩
/-- What Tokens leaves. -/
def TsP (r : List Tk × Nat × Int) (w : World) (e : Ending) (w' : World) : Prop :=
  ∃ (a : Option Addr) (n c : Nat), e = .returned (.tuple #[.slice a n c, .int .i64 (r.2.1 : Nat), .int .i64 r.2.2]) ∧ KS w' a n c r.1 ∧ Below w.heap.size w w'

/-- While Tokens goes on. -/
structure TI (w wr : World) (sb : Nat) (s : ByteArray) (i : Nat) (a : Option Addr) (n c : Nat) (L : List Tk) : Prop where
  sc : Sc wr sb s i
  own : OwnK wr (sb + 1) a n c L
  below : Below sb w wr
  eq : app L (toks s i) = toks s 0
  le : i ≤ s.size
  few : n ≤ i
theorem TI.turned {w wr w' : World} {sb : Nat} {s : ByteArray} {i j : Nat} {a : Option Addr} {n c : Nat} {L : List Tk} (h : TI w wr sb s i a n c L) (hS : Sc w' sb s j) (ht : Turned wr w' sb none) (he : app L (toks s j) = toks s 0) (hj : j ≤ s.size) (hij : i ≤ j) : TI w w' sb s j a n c L :=
  ⟨hS, OwnS.of h.own (fun i hi => ht.block i (OwnS.blockLt h.own hi).2 (fun e => by have := (OwnS.blockLt h.own hi).1; omega) (by simp)), h.below.trans (ht.below (Nat.le_of_lt h.sc.lt) (Nat.le_refl _) (fun i h => by cases h)), he, hj, by have := h.few; omega⟩
theorem TI.far {w wr w' : World} {sb : Nat} {s : ByteArray} {i : Nat} {a : Option Addr} {n c : Nat} {L : List Tk} (h : TI w wr sb s i a n c L) (hb : Below wr.heap.size wr w') : TI w w' sb s i a n c L :=
  ⟨h.sc.below hb, h.own.below hb, h.below.trans (hb.mono (Nat.le_of_lt h.sc.lt)), h.eq, h.le, h.few⟩

set_option maxRecDepth 100000 in
set_option maxHeartbeats 4000000 in
theorem tokens_any (s : ByteArray) (w : World) (hG : Gl w) (hmax : s.size ≤ 9223372036854775807) : Calls Tryd.prog 7 #[.string s] w (TsP (tokens s) w) := by
  by_cases hbig : 8192 < s.size
  · have d0 : decide ((8192 : Int) < s.size) = true := decide_eq_true (by omega)
    have HE : Hid (tokens s = ([], 0, 3)) := Lib.hid (by unfold tokens; rw [if_pos hbig])
    clear hbig
    go_enter Tryd.func7, Tryd.ntmps7
    go_wp2
    go_ret3
    rw [HE.out]
    exact ⟨none, 0, 0, rfl, ⟨rfl, Nat.le_refl _, by omega, fun _ => rfl, .inl rfl⟩, Below.refl _ _⟩
  · have d0 : decide ((8192 : Int) < s.size) = false := decide_eq_false (by omega)
    have hm : s.size ≤ 100000 := by omega
    have HE : Hid (tokens s = toks s 0) := Lib.hid (by unfold tokens; rw [if_neg hbig])
    have HG := Lib.hid hG
    have hW := below_alloc w (.cells #[.string s, .int .i64 0] 36)
    have hS : Sc (w.alloc (.cells #[.string s, .int .i64 0] 36)) w.heap.size s 0 := Blk.new w _ _
    have hT : TI w (w.alloc (.cells #[.string s, .int .i64 0] 36)) w.heap.size s 0 none 0 0 [] := ⟨hS, OwnS.nil _ _ _, hW, app_nil _, by omega, Nat.le_refl _⟩
    have HT := Lib.hid hT
    have HW := Lib.hid hW
    clear hT hS hG hbig hW
    go_enter Tryd.func7, Tryd.ntmps7
    go_wp2_with fail
    generalize hWW : w.alloc (.cells #[.string s, .int .i64 0] 36) = W at HT HW ⊢
    clear hWW
    go_loopw [6] (fun o wr => ∃ (i : Nat) (a : Option Addr) (n c : Nat) (L : List Tk), o = .slice a n c ∧ Hid (TI w wr w.heap.size s i a n c L)) (fun _ wr => s.size - (intOf ((wr.cell? ⟨w.heap.size, 1, none⟩).getD undef)).toNat)
    case atStart => exact ⟨0, none, 0, 0, [], rfl, HT⟩
    case round =>
      clear HT
      obtain ⟨i, a, n, c, L, rfl, HI⟩ := hrel
      have hile := HI.out.le
      have c1 : wr.cell? ⟨w.heap.size, 1, none⟩ = some (.int .i64 i) := by simpa using HI.out.sc.cell 1
      have M0 := Lib.hid c1
      clear c1
      go_wp2_with fail
      refine (blanks_any w.heap.size s i wr HI.out.sc hile hm).mono ?_
      rintro e w1 ⟨rfl, hs1, ht1⟩
      have hnx := nx_le hile
      have HI1 := Lib.hid (HI.out.turned hs1 ht1 (by rw [toks_nx hile]; exact HI.out.eq) hnx.2 hnx.1)
      have HNX := Lib.hid (nx_idem hile)
      have HG1 : Hid (Gl w1) := Lib.hid (HG.out.below HI1.out.below)
      obtain ⟨j, hj⟩ : ∃ j, nx s i = j := ⟨_, rfl⟩
      rw [hj] at HI1 hnx HNX
      clear hs1 ht1 hj
      have c1 : w1.cell? ⟨w.heap.size, 1, none⟩ = some (.int .i64 j) := by simpa using HI1.out.sc.cell 1
      by_cases hlt : j < s.size
      · have d1 : ((j : Int) == s.size) = false := by rw [beq_eq_false_iff_ne]; omega
        go_wp2_with fail
        refine (token_any w.heap.size s j w1 HG1.out HI1.out.sc hlt hm).mono ?_
        rintro e w2 ⟨rfl, hb2⟩
        have HI2 := Lib.hid (HI1.out.far hb2); have hs2 := hb2.size
        clear hb2 HI1 HG1 c1
        obtain ⟨r, hr⟩ : ∃ r, on s j = r := ⟨_, rfl⟩
        have HR := Lib.hid hr
        rw [hr]
        clear hr
        obtain ⟨x, z⟩ := r
        have hrow : ∀ i, blockOf a = some i → i < w2.heap.size := fun i hi => (OwnS.blockLt HI2.out.own hi).2
        have HZ : Hid (KB (w2.alloc (.cells #[.int .i64 0, .int .i64 0, .string ⟨#[]⟩, .int .i64 0, .int .i64 0] 31)) w2.heap.size tk0) := kb_new w2 tk0
        have hbz := below_alloc w2 (.cells #[.int .i64 0, .int .i64 0, .string ⟨#[]⟩, .int .i64 0, .int .i64 0] 31)
        have HBZ := Lib.hid hbz
        clear hbz
        go_wp2_with (refine wpList_store_K rfl _ _ rfl rfl HZ.out x rfl ?_)
        intro w5 hv5 ho5
        have HV5 := Lib.hid hv5
        have HI5 := Lib.hid (HI2.out.far (HBZ.out.trans (ho5.below (Nat.le_refl _))))
        have hs5 : w5.heap.size = w2.heap.size + 1 := by rw [ho5.size, size_alloc]
        have HS5 := Lib.hid hs5
        clear hv5 ho5 HZ HBZ HI2 hs5
        have HRW := Lib.hid hrow
        clear hrow
        generalize hgt : w2.heap.size = gt at HV5 HS5 HRW ⊢
        clear hgt
        by_cases hz : z = 0
        · subst hz
          have hon : (on s j).2 = 0 := by rw [HR.out]
          have hto := on_to hlt hon
          rw [HR.out] at hto
          obtain ⟨hxf, j2, hxt, hj2, hj3⟩ := hto
          have HST : Hid (app (L ++ [x]) (toks s j2) = toks s 0) := Lib.hid (by
            have h := app_step (s := s) (i := j) (L := L) (by rw [HNX.out]; exact hlt) (by omega) (by rw [HNX.out]; exact hon)
            rw [HNX.out, HR.out] at h
            have e : ((x, (0 : Int)) : Tk × Int).1.t.toNat = j2 := by show x.t.toNat = j2; rw [hxt]; rfl
            rw [e] at h
            exact h.symm.trans HI5.out.eq)
          have hfew := HI5.out.few
          have HXT := Lib.hid hxt
          have hn1 : n + 1 ≤ 1000000 := by omega
          have HSRC := Lib.hid (src_new w5 x.cells 31)
          have HO6 := Lib.hid (HI5.out.own.below (below_alloc w5 (.cells x.row 31)))
          have hb6 : w.heap.size + 1 ≤ (w5.alloc (.cells x.row 31)).heap.size := by rw [size_alloc]; have := HI5.out.sc.lt; omega
          have HV6 : Hid (KB (w5.alloc (.cells x.row 31)) gt x) := Lib.hid (HV5.out.below (below_alloc _ _))
          have HI6 := Lib.hid (HI5.out.far (below_alloc w5 (.cells x.row 31)))
          clear hxf hxt hon hfew
          go_wp2_with (first | (refine wpList_load_K rfl _ rfl rfl HV5.out ?_) | (at_builtin; refine wpList_append_k rfl _ _ rfl (w.heap.size + 1) rfl HO6.out rfl x HSRC.out hn1 hb6 ?_))
          intro a7 c7 w7 ho7 hb7 hg7
          have hv7 : KB w7 gt x := HV6.out.of (hg7.block gt HV6.out.lt (fun e => by have := HRW.out gt e.symm; omega))
          have hs7 : Sc w7 w.heap.size s j := HI6.out.sc.of (hb7.block _ (Nat.lt_succ_self _))
          have HB7 : Hid (Below w.heap.size w w7) := Lib.hid (HI6.out.below.trans (hb7.mono (Nat.le_succ _)))
          have HO7 := Lib.hid ho7; have HS7 := Lib.hid hs7
          have v4 : w7.cell? ⟨gt, 4, none⟩ = some (.int .i64 x.t) := by simpa using hv7.cell 4
          have f1 : w7.frozen? ⟨w.heap.size, 1, none⟩ = false := hs7.free 1
          have c1 : w7.cell? ⟨w.heap.size, 1, none⟩ = some (.int .i64 j) := by simpa using hs7.cell 1
          rw [HXT.out] at v4
          have hfew := HI5.out.few
          have HFEW : Hid (n + 1 ≤ j2) := Lib.hid (by omega)
          have hij : i ≤ j := hnx.1
          clear ho7 hb7 hg7 hv7 hs7 HO6 HV6 HI6 HV5 HI5 HSRC hfew
          go_wp2
          have oc := only_cell w7 w.heap.size 1 (.int .i64 j2)
          have h4 : Sc (w7.setCell ⟨w.heap.size, 1, none⟩ (.int .i64 j2)) w.heap.size s j2 := by
            have := HS7.out.set 1 (.int .i64 j2)
            simpa using this
          have hTI : TI w (w7.setCell ⟨w.heap.size, 1, none⟩ (.int .i64 j2)) w.heap.size s j2 a7 (n + 1) c7 (L ++ [x]) :=
            ⟨h4, OwnS.of HO7.out (fun i hi => oc.block i (by have := (OwnS.blockLt HO7.out hi).1; omega)), HB7.out.trans (oc.below (Nat.le_refl _)), HST.out, hj3, HFEW.out⟩
          refine ⟨⟨j2, a7, n + 1, c7, L ++ [x], rfl, hTI⟩, ?_⟩
          have h5 : (w7.setCell ⟨w.heap.size, 1, none⟩ (.int .i64 j2)).cell? ⟨w.heap.size, 1, none⟩ = some (.int .i64 j2) := by simpa using h4.cell 1
          rw [h5, M0.out]
          simp [intOf]
          omega
        · have d2 : (z != 0) = true := by rw [bne_iff_ne]; exact hz
          have HEE : Hid (tokens s = ([], j, z)) := Lib.hid (by
            have h := app_err (s := s) (i := j) (L := L) (by rw [HNX.out]; exact hlt) (by omega) (by rw [HNX.out, HR.out]; exact hz)
            rw [HNX.out, HR.out, HI5.out.eq] at h
            rw [HE.out, h])
          have c1 : w5.cell? ⟨w.heap.size, 1, none⟩ = some (.int .i64 j) := by simpa using HI5.out.sc.cell 1
          clear hz
          go_wp2_with fail
          go_quiet (fail)
          go_wp2
          go_ret3
          rw [HEE.out]
          exact ⟨none, 0, 0, rfl, ⟨rfl, Nat.le_refl _, by omega, fun _ => rfl, .inl rfl⟩, below_drewN HI5.out.below _⟩
      · obtain rfl : j = s.size := by omega
        have HEE : Hid (tokens s = (L ++ [tkEnd s], 0, 0)) := Lib.hid (by
          have h := app_end (s := s) (i := s.size) (L := L) (by rw [HNX.out]; exact Nat.le_refl _)
          rw [HI1.out.eq] at h
          rw [HE.out, h])
        have hfew := HI1.out.few
        have hn1 : n + 1 ≤ maxLen := by unfold maxLen; omega
        have hn2 : (n + 1) * 48 ≤ 140737488355328 := by omega
        have x1 : w1.drew.cell? ⟨w.heap.size, 1, none⟩ = some (.int .i64 s.size) := c1
        have x2 : (w1.drew.alloc (.cells #[.int .i64 5, .int .i64 0, .string ⟨#[]⟩, .int .i64 s.size, .int .i64 s.size] 31)).cell? ⟨w.heap.size, 1, none⟩ = some (.int .i64 s.size) := by
          rw [(below_alloc w1.drew _).cell (p := ⟨w.heap.size, 1, none⟩) HI1.out.sc.lt]; exact c1
        have O2 : Hid (OwnK (w1.drew.alloc (.cells #[.int .i64 5, .int .i64 0, .string ⟨#[]⟩, .int .i64 s.size, .int .i64 s.size] 31)) (w.heap.size + 1) a n c L) := Lib.hid ((HI1.out.own.below (Below.drew (Below.refl _ _))).below (below_alloc _ _))
        have hb2 : w.heap.size + 1 ≤ (w1.drew.alloc (.cells #[.int .i64 5, .int .i64 0, .string ⟨#[]⟩, .int .i64 s.size, .int .i64 s.size] 31)).heap.size := by rw [size_alloc]; show w.heap.size + 1 ≤ w1.heap.size + 1; have := HI1.out.sc.lt; omega
        have HSB : Hid (Sc (w1.drew.alloc (.cells #[.int .i64 5, .int .i64 0, .string ⟨#[]⟩, .int .i64 s.size, .int .i64 s.size] 31)) w.heap.size s s.size) := Lib.hid ((HI1.out.sc.below (Below.drew (Below.refl _ _))).below (below_alloc _ _))
        have HBB : Hid (Below w.heap.size w (w1.drew.alloc (.cells #[.int .i64 5, .int .i64 0, .string ⟨#[]⟩, .int .i64 s.size, .int .i64 s.size] 31))) := Lib.hid ((HI1.out.below.trans ((Below.drew (Below.refl _ _)).mono (Nat.le_of_lt HI1.out.sc.lt))).trans ((below_alloc w1.drew _).mono (Nat.le_of_lt HI1.out.sc.lt)))
        clear hfew hlt
        go_wp2_with fail
        go_region_held_law (fun V => V.cell? ⟨w.heap.size, 1, none⟩ = some (.int .i64 s.size))
          (first | exact c1 | exact x1 | exact x2 | exact x3)
          (first
            | (refine step_append_s tkT (by decide) (by rfl) (.tmp 24) (.tmp 34) (by rfl) (w.heap.size + 1) (by rfl) O2.out (by rfl) (tkEnd s) rfl (cells_one _) (src_new w1.drew (tkEnd s).cells 31) hn2 hn1 hb2 ?_; intro a7 c7 w7 ho7 hb7 hg7; have x3 : w7.cell? ⟨w.heap.size, 1, none⟩ = some (.int .i64 s.size) := (HSB.out.of (hb7.block _ (Nat.lt_succ_self _))).cell 1; have HO7 := Lib.hid ho7; have HB7 : Hid (Below w.heap.size w w7) := Lib.hid (HBB.out.trans (hb7.mono (Nat.le_succ _))); clear ho7 hb7 hg7))
        go_wp2
        go_ret3
        rw [HEE.out]
        refine ⟨a7, n + 1, c7, ?_, OwnS.toks HO7.out, HB7.out⟩
        simp
end Go.Proofs.YtlfhdjlgjekcpaaDoor.lx
