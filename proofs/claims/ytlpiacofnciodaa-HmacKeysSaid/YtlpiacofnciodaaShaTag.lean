/-
  Layer 4: the contracts of both tags.
-/
import Derived.Test.YtlpiacofnciodaaShaPKey
namespace Go.Proofs.Ytlpiacofnciodaa.sh
open Go.ChangeShapes Go.WideShapes Go.ChangeAt Go.RowKit
open bs
set_option linter.unusedVariables false
open Go.Proofs.Ytlpiacofnciodaa.ss (be be_len be_bytes tail zer APost byteT)

section
variable {P : Program} {w : World} {ops : Array Oper} {rest : List Oper} {o : Oper} {a : Act} {Q : Exit → Act → World → Prop}
theorem wpList_load_B (hgd : o.guard = none) (ty : TypeId) (x : Operand) (ho : o.op = .load ty x) {g : Nat} (hx : a.eval x = .pointer (some ⟨g, 0, none⟩)) {t : TypeId} {L : List Int} (hr : BRow w g t L)
    {d : TypeDesc} (hu : P.underlying ty = some d) (hd : (match d with | .struct _ | .array _ _ => true | _ => false) = true) {n : Nat} (hi : (P.info? ty).map (·.size) = some n) (hn : L.length = n)
    (h : wpList P ops Q rest (a.put o.dst (.agg (cellsOf L).toArray)) w) : wpList P ops Q (o :: rest) a w :=
  wpList_load_row hgd ty x ho g hx t (cellsOf L).toArray (0, 0) d hr hu hd (by rw [hi, List.size_toArray, cellsOf_len, hn]) h
theorem wpList_store_B (hgd : o.guard = none) (ty : TypeId) (x y : Operand) (ho : o.op = .store ty x y) {g : Nat} (hx : a.eval x = .pointer (some ⟨g, 0, none⟩)) {L : List Int} (hy : a.eval y = .agg (cellsOf L).toArray)
    {t : TypeId} {L0 : List Int} (hr : BRow w g t L0) {n : Nat} (hi : (P.info? ty).map (·.size) = some n) (hn : L.length = n) (hn0 : L0.length = n)
    (h : wpList P ops Q rest (a.put o.dst undef) (w.setRow g (cellsOf L).toArray)) : wpList P ops Q (o :: rest) a w :=
  wpList_store_row hgd ty x y ho g (cellsOf L).toArray hx hy t (cellsOf L0).toArray hr (by rw [hi, List.size_toArray, cellsOf_len, hn]) (by rw [List.size_toArray, List.size_toArray, cellsOf_len, cellsOf_len, hn, hn0]) (cellsOf_one L) h
end

def filI (D : List Int) (i : Nat) : List Int := D.take i ++ List.replicate (D.length - i) 0
theorem filI_set (D : List Int) (i : Nat) (h : i < D.length) : (filI D i).set i (D.getD i 0) = filI D (i + 1) := by
  unfold filI
  rw [List.set_append_right _ _ (by simp; omega), List.length_take, Nat.min_eq_left (by omega), Nat.sub_self, show D.length - i = (D.length - (i + 1)) + 1 by omega, List.replicate_succ, List.set_cons_zero, take_getD h, List.append_assoc]
  rfl
theorem filI_all (D : List Int) (i : Nat) (h : D.length = i) : filI D i = D := by
  subst h
  unfold filI
  simp

set_option maxRecDepth 100000 in
set_option maxHeartbeats 1000000 in
theorem ppad_any (q : Int) (g : Nat) (l : List Int) (w : World) (hg : BRow w g 49 (kb l)) (q0 : 0 ≤ q) (q1 : q ≤ 255) :
    Calls Try.prog 30 #[.int .u8 q, .pointer (some ⟨g, 0, none⟩)] w (APost w w.heap.size 64 (padB l q)) := by
  have hlt := hg.lt
  have HG := Lib.hid hg
  have HPL := Lib.hid (padB_len l q)
  have HKL := Lib.hid (kb_len l)
  clear hg
  go_enter Try.func30, Try.ntmps30
  go_wp2_with (at_make; refine wpList_make_b byteT rfl _ _ rfl w.heap.size .i64 .i64 64 64 64 rfl rfl rfl rfl ?_ ?_ ?_)
  · omega
  · exact Nat.le_refl _
  intro w1 ho hb hsz
  have HO := Lib.hid (show OwnB w1 w.heap.size 5 (some ⟨w.heap.size, 0, none⟩) 64 64 (filI (padB l q) 0) by unfold filI; rw [HPL.out]; exact ho)
  have HB := Lib.hid hb
  have HG1 := Lib.hid (BRow.below HG.out hlt hb)
  clear ho hb hlt
  go_wp2_with (refine wpList_load_B rfl 49 (.tmp 1) rfl rfl (L := kb l) HG1.out Try.underlying49 rfl (n := 64) (by kernel_rfl) HKL.out ?_)
  go_loopw [9] (fun i wr => ∃ t : Nat, t ≤ 64 ∧ i = .int .i64 t ∧ OwnB wr w.heap.size 5 (some ⟨w.heap.size, 0, none⟩) 64 64 (filI (padB l q) t) ∧ Below w.heap.size w wr) (fun i _ => 64 - (intOf i).toNat)
  case atStart => exact ⟨0, by omega, rfl, HO.out, HB.out⟩
  case round =>
    clear HO HB HG1
    obtain ⟨t, ht, rfl, ho, hb⟩ := hrel
    by_cases h64 : t < 64
    · have hidx : ∀ W : World, (Instr.index 49 (.agg (cellsOf (kb l)).toArray) (.int .i64 t)).run Try.prog W = .ok (.int .u8 ((kb l).getD t 0)) W := fun W => by
        have h1 := cellsOf_at (kb l) t (by rw [HKL.out]; exact h64)
        have h2 : (cellsOf (kb l)).length = 64 := by rw [cellsOf_len, HKL.out]
        simp only [List.getElem?_toArray] at h1
        simp [Instr.index, asIntOf, Try.underlying49, go_sem, h1, h2]
        intro h9
        omega
      have hv : (padB l q).getD t 0 = bits .xor .u8 ((kb l).getD t 0) q := by
        unfold padB
        rw [List.getD_eq_getElem?_getD, List.getD_eq_getElem?_getD, List.getElem?_map, List.getElem?_eq_getElem (by rw [HKL.out]; exact h64)]
        rfl
      generalize (kb l).getD t 0 = p at hidx hv
      have ct := ho.cellAt t h64
      have ft := ho.frozenAt t
      generalize (filI (padB l q) t).getD t 0 = y at ct
      have hx := xb_bd p q
      have hst := ho.stored t (bits .xor .u8 p q) hx
      rw [← hv, filI_set _ _ (by rw [HPL.out]; exact h64), hv] at hst
      have HST := Lib.hid hst; have HBl := Lib.hid hb
      clear hv hst ho hb hx
      go_wp2_with fail
      clear hidx
      go_wp2
      go_roundw
      case rel => exact ⟨t + 1, by omega, by go_num, HST.out, HBl.out.setCell (Nat.le_refl _) _⟩
      case measure => simp [intOf]; omega
    · obtain rfl : t = 64 := by omega
      rw [filI_all _ _ HPL.out] at ho
      have HO := Lib.hid ho; have HBl := Lib.hid hb
      clear ho hb
      go_wp2
      go_ret
      exact ⟨_, _, rfl, HO.out, HBl.out⟩

/-- The tag. -/
def tagB (l m : List Int) : List Int := shaSum (padB l 92 ++ shaSum (padB l 54 ++ m))

set_option maxRecDepth 100000 in
set_option maxHeartbeats 1000000 in
theorem rtag_any (a : Option Addr) (n c : Nat) (l : List Int) (a' : Option Addr) (n' c' : Nat) (m : List Int) (w : World) (h : Bytes w a n c l) (h' : Bytes w a' n' c' m) (hn : n ≤ 100000) (hn' : n' ≤ 100000) :
    Calls Try.prog 19 #[.slice a n c, .slice a' n' c'] w (APost w w.heap.size 32 (tagB l m)) := by
  have H1 := Lib.hid h; have H2 := Lib.hid h'
  have x54 : bits .xor .u8 0 54 = 54 := by decide
  have x92 : bits .xor .u8 0 92 = 92 := by decide
  have X54 := Lib.hid x54; have X92 := Lib.hid x92
  clear h h' x54 x92
  go_enter Try.func19, Try.ntmps19
  go_wp2_with fail
  refine (rkey_any a n c l 54 _ H1.out (by omega) (by omega) (by omega) X54.out).mono ?_
  rintro e w1 ⟨a1, c1, rfl, ho1, hb1⟩
  have HO1 := Lib.hid ho1; have HB1 := Lib.hid hb1; have HM1 := Lib.hid (H2.out.below hb1); have HK1 := Lib.hid (H1.out.below hb1)
  have s1 := hb1.size
  clear ho1 hb1
  go_wp2_with (at_builtin; refine wpList_append_b byteT rfl _ _ rfl w.heap.size rfl (l := padB l 54) ?o1 rfl (l' := m) ?b1 ?_ ?_ ?_)
  case o1 => exact HO1.out
  case b1 => exact HM1.out
  · omega
  · exact s1
  intro a2 c2 w2 ho2 hb2 _
  have HO2 := Lib.hid ho2; have HB2 := Lib.hid (HB1.out.trans hb2)
  have HK2 := Lib.hid (H1.out.below HB2.out)
  have s2 := HB2.out.size
  clear ho2 hb2 HO1
  go_wp2_with fail
  refine (rkey_any a n c l 92 _ HK2.out (by omega) (by omega) (by omega) X92.out).mono ?_
  rintro e w3 ⟨a3, c3, rfl, ho3, hb3⟩
  have HO3 := Lib.hid ho3; have HB3 := Lib.hid (HB2.out.trans (hb3.mono s2)); have HO23 := Lib.hid ((HO2.out.below hb3).bytes)
  have s3 := HB3.out.size
  clear ho3 hb3
  go_wp2_with fail
  refine (rsum_any a2 _ c2 (padB l 54 ++ m) _ HO23.out (by omega)).mono ?_
  rintro e w4 ⟨a4, c4, rfl, ho4, hb4⟩
  have HO4 := Lib.hid ho4.bytes; have HB4 := Lib.hid (HB3.out.trans (hb4.mono s3)); have HO34 := Lib.hid (OwnB.mono (HO3.out.below hb4) s2)
  have s4 := HB4.out.size
  clear ho4 hb4
  go_wp2_with (at_builtin; refine wpList_append_b byteT rfl _ _ rfl w.heap.size rfl (l := padB l 92) ?o2 rfl (l' := shaSum (padB l 54 ++ m)) ?b2 ?_ ?_ ?_)
  case o2 => exact HO34.out
  case b2 => exact HO4.out
  · omega
  · exact s4
  intro a5 c5 w5 ho5 hb5 _
  have HO5 := Lib.hid ho5.bytes; have HB5 := Lib.hid (HB4.out.trans hb5)
  have s5 := HB5.out.size
  clear ho5 hb5
  go_wp2_with fail
  refine (rsum_any a5 _ c5 (padB l 92 ++ shaSum (padB l 54 ++ m)) _ HO5.out (by omega)).mono ?_
  rintro e w6 ⟨a6, c6, rfl, ho6, hb6⟩
  have HO6 := Lib.hid (ho6.mono s5); have HB6 := Lib.hid (HB5.out.trans (hb6.mono s5))
  clear ho6 hb6
  go_wp2
  go_ret
  exact ⟨a6, c6, rfl, HO6.out, HB6.out⟩

set_option maxRecDepth 100000 in
set_option maxHeartbeats 1000000 in
theorem ptag_any (a : Option Addr) (n c : Nat) (l : List Int) (a' : Option Addr) (n' c' : Nat) (m : List Int) (w : World) (h : Bytes w a n c l) (h' : Bytes w a' n' c' m) (hn : n ≤ 100000) (hn' : n' ≤ 100000) :
    Calls Try.prog 18 #[.slice a n c, .slice a' n' c'] w (APost w w.heap.size 32 (tagB l m)) := by
  have hmf : ∀ (fn : Fn) (first cap : Array Value) (w : World), (Instr.makeFunc fn first cap).run Try.prog w = .ok (.func fn first cap) w := fun _ _ _ _ => rfl
  have H1 := Lib.hid h; have H2 := Lib.hid h'
  have HKL := Lib.hid (kb_len l)
  clear h h'
  go_enter Try.func18, Try.ntmps18
  go_wp2_with fail
  refine (pkey_any a n c l _ H1.out (by omega)).mono ?_
  rintro e w0 ⟨rfl, hb0⟩
  have HB0 := Lib.hid hb0; have HM0 := Lib.hid (H2.out.below hb0)
  have s0 := hb0.size
  clear hb0
  go_wp2_with (refine wpList_store_B (g := w0.heap.size) (t := 49) rfl 49 (.tmp 5) _ rfl rfl (L := kb l) (L0 := Z64) rfl ?hr1 (n := 64) (by kernel_rfl) HKL.out Z64_len ?_)
  case hr1 => exact heap_alloc_new w0 _
  obtain ⟨W1, hW1⟩ : ∃ W1, W1 = (w0.alloc (.cells (cellsOf Z64).toArray 49)).setRow w0.heap.size (cellsOf (kb l)).toArray := ⟨_, rfl⟩
  change Calls _ _ _ ((w0.alloc (.cells (cellsOf Z64).toArray 49)).setRow w0.heap.size (cellsOf (kb l)).toArray) _
  rw [← hW1]
  have HG := Lib.hid (show BRow W1 w0.heap.size 49 (kb l) by rw [hW1]; exact setRow_heap _ _ _ _ _ _ (heap_alloc_new w0 _))
  have hB1 : Below w0.heap.size w0 W1 := by rw [hW1]; exact Go.below_setRow ((Below.refl _ _).alloc (Nat.le_refl _) _) (Nat.le_refl _) _
  have HM1 := Lib.hid (HM0.out.below hB1)
  have HB1 := Lib.hid (HB0.out.trans (hB1.mono s0))
  have s1 := HB1.out.size
  clear hW1 hB1
  refine (ppad_any 54 w0.heap.size l _ HG.out (by omega) (by omega)).mono ?_
  rintro e w2 ⟨a2, c2, rfl, ho2, hb2⟩
  have HO2 := Lib.hid (ho2.mono s1); have HM2 := Lib.hid (HM1.out.below hb2); have HG2 := Lib.hid (BRow.below HG.out HG.out.lt hb2); have HB2 := Lib.hid (HB1.out.trans (hb2.mono s1))
  have HOx := Lib.hid ho2
  have hbase : w0.heap.size < W1.heap.size := HG.out.lt
  have s2 := HB2.out.size
  have s22 := hb2.size
  clear ho2 hb2
  go_wp2_with (at_builtin; refine wpList_append_b byteT rfl _ _ rfl W1.heap.size rfl (l := padB l 54) ?o1 rfl (l' := m) ?b1 ?_ ?_ ?_)
  case o1 => exact HOx.out
  case b1 => exact HM2.out
  · omega
  · exact s22
  intro a3 c3 w3 ho3 hb3 _
  have HO3 := Lib.hid ho3.bytes; have HB3 := Lib.hid (HB2.out.trans (hb3.mono s1)); have HG3 := Lib.hid (BRow.below HG2.out hbase hb3)
  have s3 := HB3.out.size
  clear ho3 hb3
  go_wp2_with fail
  refine (psum_any a3 _ c3 (padB l 54 ++ m) _ HO3.out (by omega)).mono ?_
  rintro e w4 ⟨a4, c4, rfl, ho4, hb4⟩
  have HO4 := Lib.hid ho4.bytes; have HB4 := Lib.hid (HB3.out.trans (hb4.mono s3)); have HG4 := Lib.hid (BRow.below HG3.out HG3.out.lt hb4)
  have s4 := HB4.out.size
  clear ho4 hb4
  go_wp2_with fail
  refine (ppad_any 92 w0.heap.size l _ HG4.out (by omega) (by omega)).mono ?_
  rintro e w5 ⟨a5, c5, rfl, ho5, hb5⟩
  have HO5 := Lib.hid (ho5.mono s4); have HB5 := Lib.hid (HB4.out.trans (hb5.mono s4)); have HO45 := Lib.hid (HO4.out.below hb5)
  have s5 := HB5.out.size
  clear ho5 hb5
  go_wp2_with (at_builtin; refine wpList_append_b byteT rfl _ _ rfl w.heap.size rfl (l := padB l 92) ?o2 rfl (l' := shaSum (padB l 54 ++ m)) ?b2 ?_ ?_ ?_)
  case o2 => exact HO5.out
  case b2 => exact HO45.out
  · omega
  · exact s5
  intro a6 c6 w6 ho6 hb6 _
  have HO6 := Lib.hid ho6.bytes; have HB6 := Lib.hid (HB5.out.trans hb6)
  have s6 := HB6.out.size
  clear ho6 hb6
  go_wp2_with fail
  refine (psum_any a6 _ c6 (padB l 92 ++ shaSum (padB l 54 ++ m)) _ HO6.out (by omega)).mono ?_
  rintro e w7 ⟨a7, c7, rfl, ho7, hb7⟩
  have HO7 := Lib.hid (ho7.mono s6); have HB7 := Lib.hid (HB6.out.trans (hb7.mono s6))
  clear ho7 hb7
  go_wp2
  go_ret
  exact ⟨a7, c7, rfl, HO7.out, HB7.out⟩

end Go.Proofs.Ytlpiacofnciodaa.sh
