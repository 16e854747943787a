/-
  Layer 48: the statement on what lasts behind a crash.
-/
import Derived.Test.YtcncfljpbbpaoaaDevDoes
namespace Go.Proofs.Ytcncfljpbbpaoaa.dv
open Go.ChangeShapes Go.WideShapes Go.ChangeAt Go.RowKit
open bs
set_option linter.unusedVariables false

def OpV.Rd (x : OpV) (w : World) : Prop := In64 x.k ∧ In64 x.q ∧ Bytes w x.a x.n x.c x.l
set_option maxRecDepth 100000 in
theorem open_op {H : Type} {enc : TypeId × Value → H} {w : World} {r : Reach} {b0 : Nat} {v : Value} {d : DataW H} {p : List MemPlace}
    (hv : Value.okWide Try.prog w r b0 68 v) (h : DataW.Trod enc Try.prog w 0 (fun _ => true) true 68 v d p) : ∃ x : OpV, v = x.val ∧ x.Rd w := by
  obtain ⟨v0, v1, v2, y0, y1, y2, m, rfl, rfl, rfl, h0, h1, h2⟩ := Go.Joins.open_agg3 Try.underlying68 (by kernel_rfl) (by kernel_rfl) hv h
  obtain ⟨z, e0, _, wz⟩ := DataW.trod_int Try.underlying3 h0
  obtain ⟨z2, e2, _, wz2⟩ := DataW.trod_int Try.underlying3 h2
  simp only [List.cons.injEq, and_true] at e0 e2
  subst e0 e2
  obtain ⟨a, n, c, l, rfl, hb, _⟩ := open_bytes_cell Try.underlying46 Try.underlying5 (by kernel_rfl) h1
  exact ⟨⟨z, a, n, c, l, z2⟩, rfl, in64 wz, in64 wz2, hb⟩

theorem begins_any (a : Option Addr) (n c : Nat) (l : List Int) (a' : Option Addr) (k c' : Nat) (w : World) (h : Bytes w a n c l) (h' : Bytes w a' k c' (l.take k)) (hk : k ≤ n) :
    Calls Try.prog 46 #[.slice a n c, .slice a' k c'] w fun e w' => e = .returned (.bool true) ∧ ∃ m, w' = w.drewN m := by
  have hcap := h.cap; have hmost := h.most
  have HF := Lib.hid (first_bytes h k hk)
  have HH' := Lib.hid h'
  clear h h'
  have d1 : decide (k ≤ n) = true := decide_eq_true hk
  have hkc : k ≤ c := by omega
  go_enter Try.func46, Try.ntmps46
  go_wp2_with fail
  refine (rsame_any _ _ _ (l.take k) _ _ _ (l.take k) _ HF.out HH'.out).mono ?_
  rintro e w1 ⟨rfl, m1, rfl⟩
  rw [beq_self_eq_true]
  go_wp2
  go_ret
  exact ⟨rfl, m1, rfl⟩

theorem OwnB.apart {w w' V : World} {base e a n c l} (h : OwnB w base e a n c l) {dd : Nat} {row : Option Nat} (ht : Turned w w' dd row) (hd : dd < base) (hr : ∀ i, row = some i → i < base) : OwnB w' base e a n c l :=
  h.turned ht (fun e => by have := (h.blockLt e).1; omega) (fun i hi e => by have := hr i hi; have := (h.blockLt e).1; omega)

set_option maxRecDepth 100000 in
set_option maxHeartbeats 3000000 in
theorem law_lasts (r : Int) (a0 : Option Addr) (n0 c0 : Nat) (ops : List OpV) (x : OpV) (w : World) (r0 : -9223372036854775808 ≤ r) (r1 : r ≤ 9223372036854775807) (h : Recs 3 OpAt w a0 n0 c0 ops) (hx : x.Rd w) :
    Calls Try.prog 11 #[.int .i64 r, .slice a0 n0 c0, x.val] w fun e w' => e = .returned (.bool true) ∧ Below w.heap.size w w' := by
  have hcap := h.cap; have hmost := h.most
  have HX := Lib.hid h; clear h
  obtain ⟨xk, xa, xn, xc, xl, xq⟩ := x
  obtain ⟨ik, iq, hxb⟩ := hx
  dsimp only at ik iq hxb
  obtain rfl : xl.length = xn := hxb.len
  have hxc := hxb.cap; have hxm := hxb.most
  have HXB := Lib.hid hxb; clear hxb
  have hW : Below w.heap.size w (w.alloc (.cells #[.int .i64 xk, .slice xa xl.length xc, .int .i64 xq] 68)) := (Below.refl _ _).alloc (Nat.le_refl _) _
  have hbx : Blk (w.alloc (.cells #[.int .i64 xk, .slice xa xl.length xc, .int .i64 xq] 68)) w.heap.size #[.int .i64 xk, .slice xa xl.length xc, .int .i64 xq] 68 := Blk.new w _ _
  have hXW := HX.out.below opStays hW
  have HXW := Lib.hid hXW
  have HW := Lib.hid hW; have HBX := Lib.hid hbx
  clear hW hbx hXW
  unfold OpV.val
  go_enter Try.func11, Try.ntmps11
  go_wp2_with fail
  generalize w.alloc (.cells #[.int .i64 xk, .slice xa xl.length xc, .int .i64 xq] 68) = W at HXW HW HBX ⊢
  have hsW := HW.out.size
  have hltW := HBX.out.lt
  refine (large_any a0 n0 c0 ops _ HXW.out).mono ?_
  rintro e w' ⟨b, rfl, hb, rfl⟩
  have HBg := Lib.hid hb; clear hb
  have b0 := HBX.out.cell 0; have b1 := HBX.out.cell 1; have b2 := HBX.out.cell 2
  cases b with
  | true =>
    go_wp2_with fail
    refine (awake_any _).mono ?_
    rintro e w5 ⟨rfl, hb5⟩
    go_wp2
    go_ret
    exact ⟨rfl, HW.out.trans (hb5.mono hsW)⟩
  | false =>
    by_cases hbig : 70000 < xl.length
    · go_wp2_with fail
      refine (awake_any _).mono ?_
      rintro e w5 ⟨rfl, hb5⟩
      go_wp2
      go_ret
      exact ⟨rfl, HW.out.trans (hb5.mono hsW)⟩
    · have HS := Lib.hid (HBg.out rfl)
      have hn60 : n0 ≤ 60 := by have := HX.out.len; have := HS.out.1; omega
      go_wp2_with fail
      refine (new_any r _ r0 r1).mono ?_
      rintro e w1 ⟨rfl, hd1, hb1⟩
      have hroom := clampN_le r 65536
      have HD1 := Lib.hid hd1; have HB1 := Lib.hid hb1
      clear hd1 hb1 b0 b1 b2
      generalize clampN r 65536 = room at hroom HD1
      go_wp2_with fail
      go_loopw [8] (fun i wr => ∃ (k s : Nat) (a : Option Addr) (n c : Nat) (l : List Int), k ≤ n0 ∧ i = .int .i64 k ∧ Hid (Dev wr W.heap.size W.heap.size room s a n c l) ∧ Hid (Below W.heap.size W wr)) (fun i _ => n0 - (intOf i).toNat)
      case atStart => exact ⟨0, 0, none, 0, 0, [], by omega, rfl, HD1.out, HB1.out⟩
      case round =>
        clear HD1 HB1
        obtain ⟨k, s, a, n, c, l, hk, rfl, hD, hB⟩ := hrel
        have hbs := hB.out.size
        by_cases hlt : k < n0
        · have HR := HXW.out.below opStays hB.out
          obtain ⟨y, hy⟩ : ∃ y, ops[k]? = some y := ⟨ops[k]'(by have := HR.len; omega), List.getElem?_eq_getElem _⟩
          rcases HR.at' with h0 | ⟨b, off, rfl, hbl, hcell⟩
          · omega
          have hoa := hcell k y hy
          have hb200 := HS.out.2 k y hy
          have HOA := Lib.hid hoa
          obtain ⟨c0', c1', c2', -, -, -⟩ := hoa
          clear HR hcell hy
          obtain ⟨yk, ya, yn, yc, yl, yq⟩ := y
          dsimp only at c0' c1' c2'
          have hy200 : yn ≤ 200 := hb200
          clear hb200
          go_wp2_with fail
          refine (do_any hD.out yk ya yn yc yl yq HOA.out.bytes (by omega) HOA.out.iq.1 HOA.out.iq.2 hbs).mono ?_
          rintro e w1 ⟨rfl, ht, a', n', c', hd, hat⟩
          have HB1 : Hid (Below W.heap.size W w1) := hB.out.trans (ht.below hbs hD.out.ge (fun i hi => (hD.out.own.blockLt hi).1))
          have HD1 := Lib.hid hd
          clear ht hat hd
          generalize stE room l.length yk yl.length = E
          generalize stS s l yk yq = s' at HD1
          generalize stL room s l yk yl yq = l' at HD1
          go_wp2
          go_roundw
          case rel => exact ⟨k + 1, s', a', n', c', l', by omega, by go_num, HD1.out, HB1.out⟩
          case measure => simp [intOf]; omega
        · obtain rfl : k = n0 := by omega
          have KB : Hid (∀ X, Below W.heap.size W X → X.cell? ⟨w.heap.size, 1, none⟩ = some (.slice xa xl.length xc) ∧ X.cell? ⟨w.heap.size, 2, none⟩ = some (.int .i64 xq)) := fun X hX => ⟨(HBX.out.below hX).cell 1, (HBX.out.below hX).cell 2⟩
          have HDL : Hid (∀ i, blockOf a = some i → i < wr.heap.size) := fun i hi => (hD.out.own.blockLt hi).2
          have hddl := hD.out.blk.lt
          have hfit := hD.out.fit; have hle := hD.out.le
          go_wp2_with fail
          refine (bytes_any hD.out).mono ?_
          rintro e w1 ⟨a1, c1, rfl, ho1, hb1⟩
          have HD1 := Lib.hid (hD.out.far hb1)
          have HB1 := Lib.hid (hB.out.trans (hb1.mono hbs))
          have HO1 := Lib.hid ho1
          have hs1 := hb1.size
          clear ho1 hb1
          go_wp2_with fail
          refine (sure_any HD1.out).mono ?_
          rintro e w' ⟨rfl, rfl⟩
          obtain ⟨q1, q2⟩ := KB.out _ HB1.out
          go_wp2_with fail
          refine (append_any HD1.out xa _ xc xl ((HXB.out.below HW.out).below HB1.out) (by omega) HB1.out.size).mono ?_
          rintro e w2 ⟨rfl, ht, a', n', c', hd, hat⟩
          have HB2 : Hid (Below W.heap.size W w2) := HB1.out.trans (ht.below HB1.out.size HD1.out.ge (fun i hi => (HD1.out.own.blockLt hi).1))
          have HO2 := Lib.hid (OwnB.apart (V := w2) HO1.out ht hddl HDL.out)
          clear q1 q2
          have hE : apE room n xl.length = 28 ∨ apE room n xl.length = 0 := by
            unfold apE
            split
            · exact .inr rfl
            · split
              · exact .inl rfl
              · exact .inr rfl
          rcases hE with hE | hE
          · rw [if_neg (by rw [hE]; omega)] at hd
            rw [hE]
            have hn' : n' = n := hd.own.len.symm.trans hD.out.own.len
            subst hn'
            have HD2 := Lib.hid hd
            clear ht hat hd hE
            go_wp2_with fail
            refine (bytes_any HD2.out).mono ?_
            rintro e w3 ⟨a3, c3, rfl, ho3, hb3⟩
            have HD3 := Lib.hid (HD2.out.far hb3); have HB3 := Lib.hid (HB2.out.trans (hb3.mono HB2.out.size))
            have HO3 := Lib.hid ho3; have HO4 := Lib.hid (HO2.out.below hb3)
            clear ho3 hb3
            go_wp2_with fail
            refine (rsame_any _ _ _ l _ _ _ l _ HO3.out.bytes HO4.out.bytes).mono ?_
            rintro e w4 ⟨rfl, m4, rfl⟩
            rw [beq_self_eq_true]
            go_wp2_with fail
            refine (sure_any (HD3.out.drewN m4)).mono ?_
            rintro e w' ⟨rfl, rfl⟩
            have HDV := Lib.hid (HD3.out.drewN m4)
            have HBV := Lib.hid (below_drewN HB3.out m4)
            generalize w3.drewN m4 = V at HDV HBV ⊢
            clear HO3 HO4 HB3 HD3 HD2 HO2 HB2 HO1 HB1 HD1
            obtain ⟨l1, HDV⟩ : ∃ l1, Hid (Dev V W.heap.size W.heap.size room s a' n' c' l1) := ⟨_, HDV⟩
            have hsV := HBV.out.size
            have hddV := HDV.out.blk.lt
            have hle' := HDV.out.le
            go_wp2_with fail
            refine (bytes_any HDV.out).mono ?_
            rintro e w6 ⟨a6, c6, rfl, ho6, hb6⟩
            have HD6 := Lib.hid (HDV.out.far hb6)
            have HB6 := Lib.hid (HBV.out.trans (hb6.mono hsV))
            have HO6 := Lib.hid ho6
            clear ho6 hb6
            obtain ⟨q1, q2⟩ := KB.out _ HB6.out
            go_wp2_with fail
            refine (crash_any HD6.out xq iq.1 iq.2).mono ?_
            rintro e w7 ⟨rfl, ht7, hd7⟩
            have hkn : kept xq s n' ≤ n' := by have := clampN_le xq (n' - s); unfold kept; omega
            have hsk : s ≤ kept xq s n' := by unfold kept; omega
            generalize kept xq s n' = K at hkn hsk hd7
            have HB7 : Hid (Below W.heap.size W w7) := HB6.out.trans (ht7.below HB6.out.size HD6.out.ge (fun i hi => by cases hi))
            have HO7 := Lib.hid (OwnB.apart (V := w7) HO6.out ht7 hddV (fun i hi => by cases hi))
            have HD7 := Lib.hid hd7
            clear ht7 hd7 q1 q2
            go_wp2_with fail
            refine (bytes_any HD7.out).mono ?_
            rintro e w8 ⟨a8, c8, rfl, ho8, hb8⟩
            have HD8 := Lib.hid (HD7.out.far hb8)
            have HB8 := Lib.hid (HB7.out.trans (hb8.mono HB7.out.size))
            have HO8 := Lib.hid ho8
            have HO9 := Lib.hid (HO7.out.below hb8)
            clear ho8 hb8
            go_wp2_with fail
            refine (begins_any a6 n' c6 l1 a8 K c8 _ HO9.out.bytes HO8.out.bytes hkn).mono ?_
            rintro e w9 ⟨rfl, m9, rfl⟩
            have g1 : decide (s ≤ K) = true := decide_eq_true hsk
            go_wp2_with fail
            refine (sure_any (HD8.out.drewN m9)).mono ?_
            rintro e w' ⟨rfl, rfl⟩
            have HB9 := Lib.hid (below_drewN HB8.out m9)
            have hfin := HW.out.trans (HB9.out.mono hsW)
            have HF := Lib.hid hfin; clear hfin
            go_wp2_with fail
            refine (awake_any _).mono ?_
            rintro e w10 ⟨rfl, hb10⟩
            go_wp2
            go_ret
            exact ⟨rfl, HF.out.trans (hb10.mono HF.out.size)⟩
          · rw [if_pos hE] at hd
            rw [hE]
            have HDV := Lib.hid hd
            have HBV := Lib.hid HB2.out
            clear ht hat hd hE HO2 HO1 HB1 HD1
            obtain ⟨V, rfl⟩ : ∃ V, V = w2 := ⟨_, rfl⟩
            obtain ⟨l1, HDV⟩ : ∃ l1, Hid (Dev V W.heap.size W.heap.size room s a' n' c' l1) := ⟨_, HDV⟩
            have hsV := HBV.out.size
            have hddV := HDV.out.blk.lt
            have hle' := HDV.out.le
            go_wp2_with fail
            refine (bytes_any HDV.out).mono ?_
            rintro e w6 ⟨a6, c6, rfl, ho6, hb6⟩
            have HD6 := Lib.hid (HDV.out.far hb6)
            have HB6 := Lib.hid (HBV.out.trans (hb6.mono hsV))
            have HO6 := Lib.hid ho6
            clear ho6 hb6
            obtain ⟨q1, q2⟩ := KB.out _ HB6.out
            go_wp2_with fail
            refine (crash_any HD6.out xq iq.1 iq.2).mono ?_
            rintro e w7 ⟨rfl, ht7, hd7⟩
            have hkn : kept xq s n' ≤ n' := by have := clampN_le xq (n' - s); unfold kept; omega
            have hsk : s ≤ kept xq s n' := by unfold kept; omega
            generalize kept xq s n' = K at hkn hsk hd7
            have HB7 : Hid (Below W.heap.size W w7) := HB6.out.trans (ht7.below HB6.out.size HD6.out.ge (fun i hi => by cases hi))
            have HO7 := Lib.hid (OwnB.apart (V := w7) HO6.out ht7 hddV (fun i hi => by cases hi))
            have HD7 := Lib.hid hd7
            clear ht7 hd7 q1 q2
            go_wp2_with fail
            refine (bytes_any HD7.out).mono ?_
            rintro e w8 ⟨a8, c8, rfl, ho8, hb8⟩
            have HD8 := Lib.hid (HD7.out.far hb8)
            have HB8 := Lib.hid (HB7.out.trans (hb8.mono HB7.out.size))
            have HO8 := Lib.hid ho8
            have HO9 := Lib.hid (HO7.out.below hb8)
            clear ho8 hb8
            go_wp2_with fail
            refine (begins_any a6 n' c6 l1 a8 K c8 _ HO9.out.bytes HO8.out.bytes hkn).mono ?_
            rintro e w9 ⟨rfl, m9, rfl⟩
            have g1 : decide (s ≤ K) = true := decide_eq_true hsk
            go_wp2_with fail
            refine (sure_any (HD8.out.drewN m9)).mono ?_
            rintro e w' ⟨rfl, rfl⟩
            have HB9 := Lib.hid (below_drewN HB8.out m9)
            have hfin := HW.out.trans (HB9.out.mono hsW)
            have HF := Lib.hid hfin; clear hfin
            go_wp2_with fail
            refine (awake_any _).mono ?_
            rintro e w10 ⟨rfl, hb10⟩
            go_wp2
            go_ret
            exact ⟨rfl, HF.out.trans (hb10.mono HF.out.size)⟩
end Go.Proofs.Ytcncfljpbbpaoaa.dv
