/-
  Layer 5: the document's Tokens.
-/
import Derived.Test.YtlfhdjlgjekcpaaDoorLexROne
import Derived.Test.YtlfhdjlgjekcpaaDoorLexTokens
namespace Go.Proofs.YtlfhdjlgjekcpaaDoor.lx
open Go.ChangeShapes Go.WideShapes Go.ChangeAt Go.RowKit
open bs
set_option linter.unusedVariables false

theorem OwnS.made0 {α : Type} {size : Nat} {cells : α → List Value} (w : World) (base : Nat) (e : TypeId) (hb : base ≤ w.heap.size) : OwnS size cells (w.alloc (.cells #[] e)) base e (some ⟨w.heap.size, 0, none⟩) 0 0 ([] : List α) := by
  refine ⟨⟨by simp, .inr ⟨w.heap.size, 0, _, rfl, hb, heap_alloc_new w _, Nat.le_refl _, by simp [maxLen], by simp, by simp⟩⟩, rfl⟩

/-- While the document's Tokens goes on. -/
structure RI (w wr : World) (s : ByteArray) (i : Nat) (a : Option Addr) (n c : Nat) (L : List Tk) : Prop where
  own : OwnK wr w.heap.size a n c L
  below : Below w.heap.size w wr
  eq : app L (toks s i) = toks s 0
  nx : nx s i = i
  le : i ≤ s.size
  few : n ≤ i
theorem RI.far {w wr w' : World} {s : ByteArray} {i : Nat} {a : Option Addr} {n c : Nat} {L : List Tk} (h : RI w wr s i a n c L) (hb : Below wr.heap.size wr w') : RI w w' s i a n c L :=
  ⟨h.own.below hb, h.below.trans (hb.mono h.below.size), h.eq, h.nx, h.le, h.few⟩

theorem ks_nil (w : World) (a : Addr) : KS w (some a) 0 0 [] := ⟨rfl, Nat.le_refl _, by omega, by simp, .inl rfl⟩

set_option maxRecDepth 100000 in
set_option maxHeartbeats 4000000 in
theorem rtokens_any (s : ByteArray) (w : World) (hmax : s.size ≤ 9223372036854775807) : Calls Tryd.prog 8 #[.string s] w (TsP (tokens s) w) := by
  have hW := below_alloc w (.cells #[] 31)
  have hO : OwnK (w.alloc (.cells #[] 31)) w.heap.size (some ⟨w.heap.size, 0, none⟩) 0 0 [] := OwnS.made0 w w.heap.size _ (Nat.le_refl _)
  have HW := Lib.hid hW; have HO := Lib.hid hO
  clear hW hO
  by_cases hbig : 8192 < s.size
  · have d0 : decide ((8192 : Int) < s.size) = true := decide_eq_true (by omega)
    have HE : Hid (tokens s = ([], 0, 3)) := Lib.hid (by unfold tokens; rw [if_pos hbig])
    clear hbig
    go_enter Tryd.func8, Tryd.ntmps8
    go_wp2
    go_ret3
    rw [HE.out]
    exact ⟨_, 0, 0, rfl, ks_nil _ _, HW.out⟩
  · have d0 : decide ((8192 : Int) < s.size) = false := decide_eq_false (by omega)
    have hm : s.size ≤ 100000 := by omega
    have HE : Hid (tokens s = toks s 0) := Lib.hid (by unfold tokens; rw [if_neg hbig])
    have hn0 := nx_le (s := s) (i := 0) (by omega)
    have hRI : RI w (w.alloc (.cells #[] 31)) s (nx s 0) (some ⟨w.heap.size, 0, none⟩) 0 0 [] := ⟨HO.out, HW.out, by rw [toks_nx (by omega)]; exact app_nil _, nx_idem (by omega), hn0.2, by omega⟩
    have HRI := Lib.hid hRI
    clear hRI hbig hn0
    go_enter Tryd.func8, Tryd.ntmps8
    go_wp2_with fail
    generalize hWW : w.alloc (.cells #[] 31) = W at HRI HW HO ⊢
    clear hWW
    refine (rnext_any s 0 W (by omega) hm).mono ?_
    rintro e W' ⟨rfl, rfl⟩
    go_wp2_with fail
    go_loopw [5, 6, 7, 8] (fun o at' _ _ wr => ∃ (i : Nat) (a : Option Addr) (n c : Nat) (L : List Tk), o = .slice a n c ∧ at' = .int .i64 i ∧ i ≤ s.size ∧ Hid (RI w wr s i a n c L)) (fun _ at' _ _ _ => s.size - (intOf at').toNat)
    case atStart => exact ⟨nx s 0, _, 0, 0, [], rfl, rfl, HRI.out.le, HRI⟩
    case round =>
      clear HRI HW HO
      obtain ⟨i, a, n, c, L, rfl, rfl, hile, HI⟩ := hrel
      by_cases hlt : i < s.size
      · go_wp2_with fail
        refine (rone_any s i wr hlt hm).mono ?_
        rintro e w2 ⟨rfl, hb2⟩
        have HI2 := Lib.hid (HI.out.far hb2)
        clear hb2 HI
        obtain ⟨r, hr⟩ : ∃ r, on s i = r := ⟨_, rfl⟩
        have HR := Lib.hid hr
        rw [hr]
        clear hr
        obtain ⟨x, z⟩ := r
        have HNX := Lib.hid HI2.out.nx
        have hrow : ∀ i, blockOf a = some i → i < w2.heap.size := fun i hi => (OwnS.blockLt HI2.out.own hi).2
        have HZ : Hid (KB (w2.alloc (.cells #[.int .i64 0, .int .i64 0, .string ⟨#[]⟩, .int .i64 0, .int .i64 0] 31)) w2.heap.size tk0) := kb_new w2 tk0
        have hbz := below_alloc w2 (.cells #[.int .i64 0, .int .i64 0, .string ⟨#[]⟩, .int .i64 0, .int .i64 0] 31)
        have HBZ := Lib.hid hbz
        clear hbz
        go_wp2_with (refine wpList_store_K rfl _ _ rfl rfl HZ.out x rfl ?_)
        intro w5 hv5 ho5
        have HV5 := Lib.hid hv5
        have HI5 := Lib.hid (HI2.out.far (HBZ.out.trans (ho5.below (Nat.le_refl _))))
        have hs5 : w5.heap.size = w2.heap.size + 1 := by rw [ho5.size, size_alloc]
        have HS5 := Lib.hid hs5; have HRW := Lib.hid hrow
        clear hv5 ho5 HZ HBZ HI2 hs5 hrow
        generalize hgt : w2.heap.size = gt at HV5 HS5 HRW ⊢
        clear hgt
        by_cases hz : z = 0
        · subst hz
          have hon : (on s i).2 = 0 := by rw [HR.out]
          have hto := on_to hlt hon
          rw [HR.out] at hto
          obtain ⟨hxf, j2, hxt, hj2, hj3⟩ := hto
          have HST : Hid (app (L ++ [x]) (toks s j2) = toks s 0) := Lib.hid (by
            have h := app_step (s := s) (i := i) (L := L) (by rw [HNX.out]; exact hlt) (by omega) (by rw [HNX.out]; exact hon)
            rw [HNX.out, HR.out] at h
            have e : ((x, (0 : Int)) : Tk × Int).1.t.toNat = j2 := by show x.t.toNat = j2; rw [hxt]; rfl
            rw [e] at h
            exact h.symm.trans HI5.out.eq)
          have hfew := HI5.out.few
          have HXT := Lib.hid hxt
          have hn1 : n + 1 ≤ 1000000 := by omega
          have HSRC := Lib.hid (src_new w5 x.cells 31)
          have HO6 := Lib.hid (HI5.out.own.below (below_alloc w5 (.cells x.row 31)))
          have hb6 : w.heap.size ≤ (w5.alloc (.cells x.row 31)).heap.size := by rw [size_alloc]; have := HI5.out.below.size; omega
          have HV6 : Hid (KB (w5.alloc (.cells x.row 31)) gt x) := Lib.hid (HV5.out.below (below_alloc _ _))
          have HI6 := Lib.hid (HI5.out.far (below_alloc w5 (.cells x.row 31)))
          clear hxf hxt hon hfew
          go_wp2_with (first | (refine wpList_load_K rfl _ rfl rfl HV5.out ?_) | (at_builtin; refine wpList_append_k rfl _ _ rfl w.heap.size rfl HO6.out rfl x HSRC.out hn1 hb6 ?_))
          intro a7 c7 w7 ho7 hb7 hg7
          have hv7 : KB w7 gt x := HV6.out.of (hg7.block gt HV6.out.lt (fun e => by have := HRW.out gt e.symm; omega))
          have HB7 : Hid (Below w.heap.size w w7) := Lib.hid (HI6.out.below.trans hb7)
          have HO7 := Lib.hid ho7
          have v4 : w7.cell? ⟨gt, 4, none⟩ = some (.int .i64 x.t) := by simpa using hv7.cell 4
          rw [HXT.out] at v4
          have hfew := HI5.out.few
          have HFEW : Hid (n + 1 ≤ j2) := Lib.hid (by omega)
          clear ho7 hb7 hg7 hv7 HO6 HV6 HI6 HV5 HI5 HSRC hfew
          go_wp2_with fail
          refine (rnext_any s j2 w7 hj3 hm).mono ?_
          rintro e w8 ⟨rfl, rfl⟩
          have hnx := nx_le hj3
          have HRN : Hid (RI w w8 s (nx s j2) a7 (n + 1) c7 (L ++ [x])) := Lib.hid ⟨HO7.out, HB7.out, by rw [toks_nx hj3]; exact HST.out, nx_idem hj3, hnx.2, by have := HFEW.out; omega⟩
          obtain ⟨j3, hj⟩ : ∃ j3, nx s j2 = j3 := ⟨_, rfl⟩
          rw [hj] at HRN hnx ⊢
          clear hj
          go_wp2
          go_roundw
          case rel => exact ⟨j3, a7, n + 1, c7, L ++ [x], rfl, rfl, hnx.2, HRN⟩
          case measure => simp [intOf]; omega
        · have d2 : (z != 0) = true := by rw [bne_iff_ne]; exact hz
          have HEE : Hid (tokens s = ([], i, z)) := Lib.hid (by
            have h := app_err (s := s) (i := i) (L := L) (by rw [HNX.out]; exact hlt) (by omega) (by rw [HNX.out, HR.out]; exact hz)
            rw [HNX.out, HR.out, HI5.out.eq] at h
            rw [HE.out, h])
          have HB6 := Lib.hid (HI5.out.below.trans ((below_alloc w5 (.cells #[] 31)).mono HI5.out.below.size))
          clear hz
          go_wp2
          go_ret3
          rw [HEE.out]
          exact ⟨_, 0, 0, rfl, ks_nil _ _, HB6.out⟩
      · obtain rfl : i = s.size := by omega
        have HEE : Hid (tokens s = (L ++ [tkEnd s], 0, 0)) := Lib.hid (by
          have h := app_end (s := s) (i := s.size) (L := L) (by rw [HI.out.nx]; exact Nat.le_refl _)
          rw [HI.out.eq] at h
          rw [HE.out, h])
        have hfew := HI.out.few
        have hn1 : n + 1 ≤ 1000000 := by omega
        have HSRC := Lib.hid (src_new wr (tkEnd s).cells 31)
        have HO6 := Lib.hid (HI.out.own.below (below_alloc wr (.cells (tkEnd s).row 31)))
        have hb6 : w.heap.size ≤ (wr.alloc (.cells (tkEnd s).row 31)).heap.size := by rw [size_alloc]; have := HI.out.below.size; omega
        have HB6 := Lib.hid (HI.out.below.trans ((below_alloc wr (.cells (tkEnd s).row 31)).mono HI.out.below.size))
        clear hfew
        go_wp2_with (at_builtin; refine wpList_append_k rfl _ _ rfl w.heap.size rfl HO6.out rfl (tkEnd s) HSRC.out hn1 hb6 ?_)
        intro a7 c7 w7 ho7 hb7 hg7
        have HO7 := Lib.hid ho7; have HB7 := Lib.hid (HB6.out.trans hb7)
        clear ho7 hb7 hg7
        go_wp2
        go_ret3
        rw [HEE.out]
        exact ⟨a7, n + 1, c7, rfl, OwnS.toks HO7.out, HB7.out⟩
end Go.Proofs.YtlfhdjlgjekcpaaDoor.lx
