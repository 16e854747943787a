/-
  Layer 46: the walks of the statements.
-/
import Derived.Test.YtcncfljpbbpaoaaEntryFrame
import Derived.Test.YtcncfljpbbpaoaaEntryReadOk
import Derived.Test.YtcncfljpbbpaoaaEntryRefOk
import Derived.Test.YtcncfljpbbpaoaaEntryRefK
namespace Go.Proofs.Ytcncfljpbbpaoaa.en
open Go.ChangeShapes Go.WideShapes Go.ChangeAt Go.RowKit
open bs
set_option linter.unusedVariables false

set_option maxRecDepth 100000 in
set_option maxHeartbeats 400000 in
theorem same_eq (k : Int) (a : Option Addr) (n c : Nat) (a' : Option Addr) (n' c' : Nat) (l : List Int) (w : World) (h : Bytes w a n c l) (h' : Bytes w a' n' c' l) :
    Calls Try.prog 34 #[.agg #[.int .i64 k, .slice a n c], .agg #[.int .i64 k, .slice a' n' c']] w fun e w' => e = .returned (.bool true) ∧ Below w.heap.size w w' := by
  have HB : ∀ o o' : Obj, Below w.heap.size w ((w.alloc o).alloc o') := fun o o' => ((Below.refl _ _).alloc (Nat.le_refl _) o).alloc (by simp) o'
  have HH := Lib.hid h; have HH' := Lib.hid h'; have HBB := Lib.hid HB
  clear h h' HB
  go_enter Try.func34, Try.ntmps34
  go_wp2_with fail
  refine (rsame_any _ _ _ l _ _ _ l _ (HH.out.below (HBB.out _ _)) (HH'.out.below (HBB.out _ _))).mono ?_
  rintro e w1 ⟨rfl, m1, rfl⟩
  rw [beq_self_eq_true]
  go_wp2
  go_ret
  exact ⟨rfl, below_drewN (HBB.out _ _) m1⟩

theorem sz_bd {m : List Int} (h : AllB m) : 0 ≤ sz m ∧ sz m ≤ 4294967295 := by
  have h0 := h.getD 0; have h1 := h.getD 1; have h2 := h.getD 2; have h3 := h.getD 3
  unfold sz four; omega

theorem read_any (a : Option Addr) (n c : Nat) (l : List Int) (p : Int) (w : World) (h : Bytes w a n c l) (hn : n ≤ 4611686018427387904) (p0 : -9223372036854775808 ≤ p) (p1 : p ≤ 9223372036854775807) :
    Calls Try.prog 33 #[.slice a n c, .int .i64 p] w (RPost l p w) := by
  by_cases hp : p < 0 ∨ (n : Int) < p
  · exact read_range a n c l p w h p0 p1 hp
  · obtain ⟨i, rfl⟩ := Int.eq_ofNat_of_zero_le (show 0 ≤ p by omega)
    by_cases h4 : n < i + 4
    · exact read_short a n c l i w h hn (by omega) h4
    · have hs := sz_bd (fun x hx => h.all x (List.mem_of_mem_drop (i := i) hx))
      by_cases z0 : sz (l.drop i) = 0
      · exact read_zero a n c l i w h hn (by omega) z0
      · by_cases z1 : 1025 < sz (l.drop i)
        · exact read_long a n c l i w h hn (by omega) z1
        · by_cases z2 : (n : Int) - i < 4 + sz (l.drop i) + 32
          · exact read_cut a n c l i w h hn (by omega) (by omega) (by omega) z2
          · cases hk : isK ((l.drop i).getD 4 0)
            · exact read_kind a n c l i w h hn (by omega) (by omega) (by omega) (by omega) hk
            · exact read_ok a n c l i w h hn (by omega) (by omega) (by omega) (by omega) hk

theorem ref_any (a : Option Addr) (n c : Nat) (l : List Int) (p : Int) (w : World) (h : Bytes w a n c l) (hn : n ≤ 4611686018427387904) (p0 : -9223372036854775808 ≤ p) (p1 : p ≤ 9223372036854775807) :
    Calls Try.prog 35 #[.slice a n c, .int .i64 p] w (RPost l p w) := by
  by_cases hp : p < 0 ∨ (n : Int) < p
  · exact ref_range a n c l p w h p0 p1 hp
  · obtain ⟨i, rfl⟩ := Int.eq_ofNat_of_zero_le (show 0 ≤ p by omega)
    by_cases h4 : n < i + 4
    · exact ref_short a n c l i w h hn (by omega) h4
    · have hs := sz_bd (fun x hx => h.all x (List.mem_of_mem_drop (i := i) hx))
      by_cases z0 : sz (l.drop i) = 0
      · exact ref_zero a n c l i w h hn (by omega) z0
      · by_cases z1 : 1025 < sz (l.drop i)
        · exact ref_long a n c l i w h hn (by omega) z1
        · by_cases z2 : (n : Int) - i < 4 + sz (l.drop i) + 32
          · exact ref_cut a n c l i w h hn (by omega) (by omega) (by omega) z2
          · cases hk : isK ((l.drop i).getD 4 0)
            · exact ref_kind a n c l i w h hn (by omega) (by omega) (by omega) (by omega) hk
            · exact ref_ok a n c l i w h hn (by omega) (by omega) (by omega) (by omega) hk

theorem rdE_zero {l : List Int} {p : Int} (hall : AllB l) (h : rdE l p = 0) : ∃ i s : Nat, p = i ∧ sz (l.drop i) = s ∧ 1 ≤ s ∧ s ≤ 1025 ∧ i + 36 + s ≤ l.length ∧ 1 ≤ (l.drop i).getD 4 0 ∧ (l.drop i).getD 4 0 ≤ 3 := by
  unfold rdE at h
  by_cases hp : p < 0 ∨ (l.length : Int) < p
  · rw [if_pos hp] at h; omega
  rw [if_neg hp] at h
  obtain ⟨i, rfl⟩ := Int.eq_ofNat_of_zero_le (show 0 ≤ p by omega)
  have hs := sz_bd (fun x hx => hall x (List.mem_of_mem_drop (i := i) hx))
  rw [Int.toNat_natCast] at h
  by_cases h4 : (l.length : Int) - i < 4
  · rw [if_pos h4] at h; omega
  rw [if_neg h4] at h
  by_cases z0 : sz (l.drop i) = 0
  · rw [if_pos z0] at h; omega
  rw [if_neg z0] at h
  by_cases z1 : 1025 < sz (l.drop i)
  · rw [if_pos z1] at h; omega
  rw [if_neg z1] at h
  by_cases z2 : (l.length : Int) - i < 4 + sz (l.drop i) + 32
  · rw [if_pos z2] at h; omega
  rw [if_neg z2] at h
  by_cases hk : isK ((l.drop i).getD 4 0) = true
  · have hk' : 1 ≤ (l.drop i).getD 4 0 ∧ (l.drop i).getD 4 0 ≤ 3 := by unfold isK at hk; simpa using hk
    exact ⟨i, (sz (l.drop i)).toNat, rfl, by omega, by omega, by omega, by omega, hk'.1, hk'.2⟩
  · rw [if_neg hk] at h; omega

/-- What was read was framed just so. -/
theorem framed (m : List Int) (hall : AllB m) (s : Nat) (hs : sz m = s) (h1 : 1 ≤ s) (h2 : s ≤ 1025) (hlen : 36 + s ≤ m.length) :
    frB (m.getD 4 0) ((m.drop 5).take (s - 1)) ((m.drop (4 + s)).take 32) = m.take (36 + s) := by
  have h0 := hall.getD 0; have h1' := hall.getD 1; have h2' := hall.getD 2; have h3' := hall.getD 3
  match m, hlen with
  | x0 :: x1 :: x2 :: x3 :: x4 :: r, hlen =>
    simp only [List.getD_cons_zero, List.getD_cons_succ] at h0 h1' h2' h3'
    obtain ⟨t, rfl⟩ : ∃ t, s = t + 1 := ⟨s - 1, by omega⟩
    unfold sz four at hs
    simp only [List.getD_cons_zero, List.getD_cons_succ] at hs
    have hr : t + 32 ≤ r.length := by simp at hlen; omega
    have hlr : ((r.take t).length + 1) = t + 1 := by rw [List.length_take]; omega
    unfold frB
    simp only [List.getD_cons_zero, List.getD_cons_succ, List.drop_succ_cons, List.drop_zero, Nat.add_sub_cancel, hlr, show 4 + (t + 1) = t + 1 + 1 + 1 + 1 + 1 by omega, show 36 + (t + 1) = (t + 32) + 1 + 1 + 1 + 1 + 1 by omega, List.take_succ_cons]
    rw [List.take_add]
    have q0 : x0 = 0 := by omega
    have q1 : x1 = 0 := by omega
    have q2 : x2 = ((t + 1) / 256 : Nat) := by omega
    have q3 : x3 = ((t + 1) % 256 : Nat) := by omega
    subst q0 q1 q2 q3
    rfl
  | [], hlen | [_], hlen | [_, _], hlen | [_, _, _], hlen | [_, _, _, _], hlen => simp at hlen <;> omega

set_option maxRecDepth 100000 in
set_option maxHeartbeats 2000000 in
theorem law_reads (a : Option Addr) (n c : Nat) (l : List Int) (p : Int) (w : World) (h : Bytes w a n c l) (hr : c ≤ 140737488351232) (p0 : -9223372036854775808 ≤ p) (p1 : p ≤ 9223372036854775807) :
    Calls Try.prog 8 #[.slice a n c, .int .i64 p] w fun e w' => e = .returned (.bool true) ∧ Below w.heap.size w w' := by
  have hcap := h.cap; have hmost := h.most
  have hl := h.len
  subst hl
  have HH := Lib.hid h
  clear h
  go_enter Try.func8, Try.ntmps8
  go_wp2_with fail
  refine (read_any a _ c l p _ HH.out (by omega) p0 p1).mono ?_
  rintro e w1 ⟨hb1, k, to, a1, a2, n1, c1, n2, c2, body, tag, rfl, ho1, ho2, hne, heq⟩
  have HO1 := Lib.hid ho1; have HO2 := Lib.hid ho2; have HB1 := Lib.hid hb1
  have Hne := Lib.hid hne; have Heq := Lib.hid heq
  clear ho1 ho2 hb1 hne heq
  go_wp2_with fail
  have hW : Below w1.heap.size w1 (w1.alloc (.cells #[.int .i64 k, .slice a1 n1 c1] 48)) := (Below.refl _ _).alloc (Nat.le_refl _) _
  have HW := Lib.hid hW; clear hW
  refine (ref_any a _ c l p _ (HH.out.below (HB1.out.trans (HW.out.mono HB1.out.size))) (by omega) p0 p1).mono ?_
  rintro e w3 ⟨hb3, k', to', a3, a4, n3, c3, n4, c4, body', tag', rfl, ho3, ho4, hne', heq'⟩
  have hall : k' = k ∧ to' = to ∧ body' = body ∧ tag' = tag := by
    by_cases hz : rdE l p = 0
    · obtain ⟨x1, x2, x3, x4⟩ := Heq.out hz
      obtain ⟨y1, y2, y3, y4⟩ := heq' hz
      exact ⟨by rw [x1, y1], by rw [x4, y4], by rw [x2, y2], by rw [x3, y3]⟩
    · obtain ⟨x1, x2, x3, x4⟩ := Hne.out hz
      obtain ⟨y1, y2, y3, y4⟩ := hne' hz
      exact ⟨by rw [x1, y1], by rw [x4, y4], by rw [x2, y2], by rw [x3, y3]⟩
  obtain ⟨rfl, rfl, rfl, rfl⟩ := hall
  have hs1 := HB1.out.size
  have hs3 := hb3.size
  rw [World.size_alloc] at hs3
  have hlt : w1.heap.size < w3.heap.size := hs3
  have c0 : w3.cell? ⟨w1.heap.size, 0, none⟩ = some (.int .i64 k') := by rw [hb3.cell (p := ⟨w1.heap.size, 0, none⟩) (by simp)]; simp
  have c1' : w3.cell? ⟨w1.heap.size, 1, none⟩ = some (.slice a1 n1 c1) := by rw [hb3.cell (p := ⟨w1.heap.size, 1, none⟩) (by simp)]; simp
  have hB3 : Below w1.heap.size w1 w3 := HW.out.trans (hb3.mono (by simp))
  have HO1' := Lib.hid (HO1.out.below hB3); have HO2' := Lib.hid (HO2.out.below hB3)
  have HO3 := Lib.hid ho3; have HO4 := Lib.hid ho4
  have HB3 := Lib.hid (HB1.out.trans (hB3.mono hs1))
  clear ho3 ho4 hne' heq' hb3 hs3 hB3 HO1 HO2 HB1
  obtain ⟨E, hE⟩ : ∃ E, rdE l p = E := ⟨_, rfl⟩
  rw [hE]
  have HE := Lib.hid hE; clear hE
  go_wp2_with fail
  have HW3 : Hid (Below w3.heap.size w3 (w3.alloc (.cells #[.int .i64 k', .slice a3 n3 c3] 48))) := (Below.refl _ _).alloc (Nat.le_refl _) _
  refine (same_eq k' _ n1 c1 _ n3 c3 body' _ (HO1'.out.bytes.below HW3.out) (HO3.out.bytes.below HW3.out)).mono ?_
  rintro e w4 ⟨rfl, hb4⟩
  have hB4 : Below w3.heap.size w3 w4 := HW3.out.trans (hb4.mono (by simp))
  have HB4 := Lib.hid hB4
  have k0 : w4.cell? ⟨w1.heap.size, 0, none⟩ = some (.int .i64 k') := by rw [hB4.cell (p := ⟨w1.heap.size, 0, none⟩) hlt]; exact c0
  have k1 : w4.cell? ⟨w1.heap.size, 1, none⟩ = some (.slice a1 n1 c1) := by rw [hB4.cell (p := ⟨w1.heap.size, 1, none⟩) hlt]; exact c1'
  clear hb4 hB4 c0 c1'
  go_wp2_with fail
  refine (rsame_any _ _ _ tag' _ _ _ tag' _ (HO2'.out.bytes.below HB4.out) (HO4.out.bytes.below HB4.out)).mono ?_
  rintro e w5 ⟨rfl, m5, rfl⟩
  rw [beq_self_eq_true]
  by_cases hE : E = 0
  · subst hE
    obtain ⟨x1, x2, x3, x4⟩ := Heq.out HE.out
    have X1 := Lib.hid x1; have X2 := Lib.hid x2; have X3 := Lib.hid x3; have X4 := Lib.hid x4
    clear x1 x2 x3 x4
    obtain ⟨i, s, hp, hs, hs1', hs2', hil, hk1, hk3⟩ := rdE_zero HH.out.all HE.out
    subst hp
    have hx1 := X1.out; have hx2 := X2.out; have hx3 := X3.out; have hx4 := X4.out
    rw [Int.toNat_natCast] at hx1 hx2 hx3 hx4
    rw [hs] at hx2 hx3 hx4
    rw [Int.toNat_natCast] at hx2 hx3
    subst hx4
    rw [← hx1] at hk1 hk3
    have hf := framed (l.drop i) (fun x hx => HH.out.all x (List.mem_of_mem_drop hx)) s hs hs1' hs2' (by rw [List.length_drop]; omega)
    rw [← hx1, ← hx2, ← hx3] at hf
    have hbl : body'.length = s - 1 := by rw [hx2, List.length_take, List.length_drop, List.length_drop]; omega
    have htl : tag'.length = 32 := by rw [hx3, List.length_take, List.length_drop, List.length_drop]; omega
    have hfE : frE k' body'.length tag'.length = 0 := by
      have hpay : payE k' body'.length = 0 := by
        rcases payE_cases k' body'.length with h | h | h
        · exact h.1
        · exfalso; unfold payE isK at h; rw [decide_eq_true ⟨hk1, hk3⟩, if_pos rfl, if_neg (by omega)] at h; omega
        · exfalso; unfold payE isK at h; rw [decide_eq_true ⟨hk1, hk3⟩, if_pos rfl, if_neg (by omega)] at h; omega
      unfold frE
      rw [if_pos hpay, if_pos htl]
    have HF := Lib.hid hf; have HFE := Lib.hid hfE
    have HBB := Lib.hid (below_drewN (HB3.out.trans (HB4.out.mono (Nat.le_trans hs1 (Nat.le_of_lt hlt)))) m5)
    clear X1 X2 X3 X4 hx1 hx2 hx3 hs hf hfE hbl htl
    go_wp2_with fail
    refine (frame_any k' a1 n1 c1 body' a2 n2 c2 tag' _ ((HO1'.out.bytes.below HB4.out).drewN m5) ((HO2'.out.bytes.below HB4.out).drewN m5) (by omega) (by omega)).mono ?_
    rintro e w6 ⟨hb6, a6, m6, c6, r6, rfl, ho6, hr6⟩
    rw [if_pos HFE.out, HF.out] at hr6
    subst hr6
    rw [HFE.out]
    have HB6 := Lib.hid (HBB.out.trans (hb6.mono HBB.out.size))
    have HO6 := Lib.hid ho6
    clear ho6 hb6
    obtain ⟨b, off, rfl, _⟩ := HH.out.at'.resolve_left (by omega)
    have HS := Lib.hid ((sub_bytes HH.out i (36 + s) (by omega)).below HB6.out)
    have y0 : ((i : Int) + 36 + s).toNat = i + 36 + s := by omega
    have y1 : (i : Int) ≤ (i : Int) + 36 + s := by omega
    have y2 : (i : Int) + 36 + s ≤ (c : Int) := by omega
    have y3 : ¬ c = i := by omega
    have y4 : i + 36 + s - i = 36 + s := by omega
    have y5 : (0 : Int) ≤ (i : Int) + 36 + s := by omega
    go_wp2_with fail
    refine (rsame_any _ _ _ ((l.drop i).take (36 + s)) _ _ _ ((l.drop i).take (36 + s)) _ HO6.out.bytes HS.out).mono ?_
    rintro e w7 ⟨rfl, m7, rfl⟩
    rw [beq_self_eq_true]
    have HB7 := Lib.hid (below_drewN HB6.out m7)
    clear y0 y1 y2 y3 y4 y5
    go_wp2_with fail
    refine (awake_any _).mono ?_
    rintro e w8 ⟨rfl, hb8⟩
    go_wp2
    go_ret
    exact ⟨rfl, HB7.out.trans (hb8.mono HB7.out.size)⟩
  · have d : (E != 0) = true := by rw [bne_iff_ne]; exact hE
    have HBB := Lib.hid (below_drewN (HB3.out.trans (HB4.out.mono (Nat.le_trans hs1 (Nat.le_of_lt hlt)))) m5)
    clear hE
    go_wp2_with fail
    refine (awake_any _).mono ?_
    rintro e w6 ⟨rfl, hb6⟩
    go_wp2
    go_ret
    exact ⟨rfl, HBB.out.trans (hb6.mono HBB.out.size)⟩
end Go.Proofs.Ytcncfljpbbpaoaa.en
