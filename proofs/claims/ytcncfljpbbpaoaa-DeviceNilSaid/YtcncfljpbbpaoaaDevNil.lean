/-
  Layer 48: operations that come in; the statement on no device.
-/
import Derived.Test.YtcncfljpbbpaoaaDevDo
import Derived.Test.YtcncfljpbbpaoaaStructs
import Derived.Test.YtcncfljpbbpaoaaOpens
namespace Go.Proofs.Ytcncfljpbbpaoaa.dv
open Go.ChangeShapes Go.WideShapes Go.ChangeAt Go.RowKit
open bs
set_option linter.unusedVariables false

structure OpV where
  k : Int
  a : Option Addr
  n : Nat
  c : Nat
  l : List Int
  q : Int
def OpV.val (x : OpV) : Value := .agg #[.int .i64 x.k, .slice x.a x.n x.c, .int .i64 x.q]
def In64 (z : Int) : Prop := -9223372036854775808 ≤ z ∧ z ≤ 9223372036854775807
structure OpAt (w : World) (b o : Nat) (x : OpV) : Prop where
  c0 : w.cell? ⟨b, o, none⟩ = some (.int .i64 x.k)
  c1 : w.cell? ⟨b, o + 1, none⟩ = some (.slice x.a x.n x.c)
  c2 : w.cell? ⟨b, o + 2, none⟩ = some (.int .i64 x.q)
  bytes : Bytes w x.a x.n x.c x.l
  ik : In64 x.k
  iq : In64 x.q
theorem opStays : Stays OpAt := fun w w' b o x h hb hbel =>
  ⟨by rw [hbel.cell (p := ⟨b, o, none⟩) hb]; exact h.c0, by rw [hbel.cell (p := ⟨b, o + 1, none⟩) hb]; exact h.c1, by rw [hbel.cell (p := ⟨b, o + 2, none⟩) hb]; exact h.c2, h.bytes.below hbel, h.ik, h.iq⟩

set_option maxRecDepth 100000 in
theorem open_ops {H : Type} {enc : TypeId × Value → H} {w : World} {r : Reach} {b0 : Nat} {v : Value} {d : DataW H} {p : List MemPlace}
    (hv : Value.okWide Try.prog w r b0 59 v) (h : DataW.Trod enc Try.prog w 0 (fun _ => true) true 59 v d p) : ∃ a n c l, v = .slice a n c ∧ Recs 3 OpAt w a n c l := by
  obtain ⟨a, n, c, rfl⟩ := okWide_slice Try.underlying59 hv
  obtain ⟨fuel, hf⟩ := h
  obtain ⟨l, hl, _⟩ := open_recs 3 OpAt Try.underlying59 (by kernel_rfl) (by decide) (fun m cs y b o ht hlen hc => by
    obtain ⟨xs, n', _, _, _, hxl, hg⟩ := DataW.trod_struct Try.underlying68 ht
    have hxl' : xs.length = 3 := hxl
    match cs, hlen, hc with
    | [v0, v1, v2], _, hc =>
      match xs, hxl' with
      | [y0, y1, y2], _ =>
        have ci : Try.prog.cellsOf 3 = 1 := by kernel_rfl
        have cb : Try.prog.cellsOf 46 = 1 := by kernel_rfl
        have g0 := hg 0 _ rfl
        have g1 := hg 1 _ rfl
        have g2 := hg 2 _ rfl
        simp [ci, cb] at g0 g1 g2
        obtain ⟨z0, h0, _, w0⟩ := DataW.trod_int Try.underlying3 g0
        obtain ⟨a1, n1, c1, l1, h1, hb1, _, _⟩ := open_bytes_cell Try.underlying46 Try.underlying5 (by kernel_rfl) g1
        obtain ⟨z2, h2, _, w2⟩ := DataW.trod_int Try.underlying3 g2
        simp only [List.cons.injEq, and_true] at h0 h2
        subst h0 h1 h2
        exact ⟨⟨z0, a1, n1, c1, l1, z2⟩, hc 0 (by decide), hc 1 (by decide), hc 2 (by decide), hb1, in64 w0, in64 w2⟩) hf
  exact ⟨a, n, c, l, rfl, hl⟩

def LPost (w : World) (l : List OpV) (e : Ending) (w' : World) : Prop :=
  ∃ b : Bool, e = .returned (.bool b) ∧ (b = false → l.length ≤ 60 ∧ ∀ (i : Nat) (x : OpV), l[i]? = some x → x.n ≤ 200) ∧ w = w'

set_option maxRecDepth 100000 in
set_option maxHeartbeats 1000000 in
theorem large_any (a : Option Addr) (n c : Nat) (l : List OpV) (w : World) (h : Recs 3 OpAt w a n c l) : Calls Try.prog 36 #[.slice a n c] w (LPost w l) := by
  have hcap := h.cap; have hmost := h.most
  have HX := Lib.hid h; clear h
  go_enter Try.func36, Try.ntmps36
  go_wp2
  go_loop [3] (fun i => ∃ k : Nat, k ≤ n ∧ k ≤ 60 ∧ i = .int .i64 k ∧ Hid (∀ (j : Nat) (x : OpV), j < k → l[j]? = some x → x.n ≤ 200)) (fun i => n - (intOf i).toNat)
  case atStart => exact ⟨0, by omega, by omega, rfl, fun j x hj => by omega⟩
  case round =>
    obtain ⟨k, hk, hk60, rfl, hall⟩ := hrel
    by_cases hlt : k < n
    · by_cases h60 : k < 60
      · have HR := HX.out
        obtain ⟨x, hx⟩ : ∃ x, l[k]? = some x := ⟨l[k]'(by have := HR.len; omega), List.getElem?_eq_getElem _⟩
        rcases HR.at' with h0 | ⟨b, off, rfl, hbl, hcell⟩
        · omega
        have hc1 := (hcell k x hx).c1
        have HXK := Lib.hid hx
        clear HR hcell hx
        by_cases hb : 200 < x.n
        · go_wp2
          go_ret
          exact ⟨true, rfl, (fun h => nomatch h), rfl⟩
        · go_wp2
          go_round
          case rel =>
            refine ⟨k + 1, by omega, by omega, by go_num, fun j y hj hy => ?_⟩
            rcases Nat.lt_or_ge j k with h | h
            · exact hall.out j y h hy
            · obtain rfl : j = k := by omega
              rw [HXK.out] at hy
              cases hy
              omega
          case measure => simp [intOf]; omega
      · have hn60 : 60 < n := by omega
        go_wp2
        go_ret
        exact ⟨decide (60 < (n : Int)), rfl, (fun h => by have := of_decide_eq_false h; omega), rfl⟩
    · obtain rfl : k = n := by omega
      have hd : decide (60 < k) = false := decide_eq_false (by omega)
      go_wp2
      go_ret
      exact ⟨decide (60 < (k : Int)), rfl, (fun _ => ⟨by have := HX.out.len; omega, fun i y hy => hall.out i y (by have := HX.out.len; have := (List.getElem?_eq_some_iff.1 hy).1; omega) hy⟩), rfl⟩

set_option maxRecDepth 100000 in
set_option maxHeartbeats 1000000 in
theorem awake_any (w : World) : Calls Try.prog 37 #[] w fun e w' => e = .returned (.bool true) ∧ Below w.heap.size w w' := by
  go_enter Try.func37, Try.ntmps37
  go_wp2_with fail
  refine (new_any 4 _ (by omega) (by omega)).mono ?_
  rintro e w1 ⟨rfl, hd1, hb1⟩
  have e4 : clampN 4 65536 = 4 := by decide
  rw [e4] at hd1
  have hs1 := hb1.size
  have HD1 := Lib.hid hd1; have HB1 := Lib.hid hb1
  clear hd1 hb1 e4
  have HW : Hid (Below w1.heap.size w1 (w1.alloc (.cells #[.int .u8 1, .int .u8 2] 5))) := (Below.refl _ _).alloc (Nat.le_refl _) _
  have HBy : Hid (Bytes (w1.alloc (.cells #[.int .u8 1, .int .u8 2] 5)) (some ⟨w1.heap.size, 0, none⟩) 2 2 [1, 2]) :=
    (OwnB.made w1 0 5 [1, 2] _ (by simp [cellsOf]) (Nat.zero_le _) (by simp [maxLen]) (by simp [AllB])).bytes
  go_wp2_with fail
  refine (append_any (HD1.out.far HW.out) _ 2 2 [1, 2] HBy.out (by omega) (by have := HW.out.size; omega)).mono ?_
  rintro e w2 ⟨rfl, ht2, a2, n2, c2, hd2, _⟩
  have e0 : apE 4 0 2 = 0 := by decide
  rw [e0, if_pos rfl] at hd2
  rw [e0]
  have hn2 : n2 = 2 := hd2.own.len.symm
  subst hn2
  have hB2 : Below w.heap.size w w2 := (HB1.out.trans (HW.out.mono hs1)).trans (ht2.below (by have := HW.out.size; omega) (Nat.le_refl _) (by intro i hi; cases hi))
  have HD2 := Lib.hid hd2; have HB2 := Lib.hid hB2
  clear ht2 hd2 hB2 e0
  go_wp2_with fail
  refine (bytes_any HD2.out).mono ?_
  rintro e w3 ⟨a3, c3, rfl, ho3, hb3⟩
  have HB3 := Lib.hid (HB2.out.trans (hb3.mono HB2.out.size))
  have HD3 := Lib.hid (HD2.out.far hb3)
  clear ho3 hb3
  go_wp2_with fail
  refine (sure_any HD3.out).mono ?_
  rintro e w' ⟨rfl, rfl⟩
  go_wp2
  go_ret
  exact ⟨rfl, HB3.out⟩

set_option maxRecDepth 100000 in
set_option maxHeartbeats 2000000 in
theorem law_nil (a : Option Addr) (n c : Nat) (l : List OpV) (w : World) (h : Recs 3 OpAt w a n c l) :
    Calls Try.prog 12 #[.slice a n c] w fun e w' => e = .returned (.bool true) ∧ Below w.heap.size w w' := by
  have hcap := h.cap; have hmost := h.most
  have HX := Lib.hid h; clear h
  go_enter Try.func12, Try.ntmps12
  go_wp2_with fail
  refine (large_any a n c l _ HX.out).mono ?_
  rintro e w' ⟨b, rfl, hb, rfl⟩
  have HBg := Lib.hid hb; clear hb
  cases b with
  | true =>
    go_wp2_with fail
    refine (awake_any _).mono ?_
    rintro e w5 ⟨rfl, hb5⟩
    go_wp2
    go_ret
    exact ⟨rfl, hb5⟩
  | false =>
    have HS := Lib.hid (HBg.out rfl)
    have hn60 : n ≤ 60 := by have := HX.out.len; have := HS.out.1; omega
    go_wp2
    go_loopw [4] (fun i wr => ∃ k : Nat, k ≤ n ∧ i = .int .i64 k ∧ Hid (Below w.heap.size w wr)) (fun i _ => n - (intOf i).toNat)
    case atStart => exact ⟨0, by omega, rfl, Below.refl _ _⟩
    case round =>
      obtain ⟨k, hk, rfl, hb⟩ := hrel
      by_cases hlt : k < n
      · have HR := HX.out.below opStays hb.out
        obtain ⟨x, hx⟩ : ∃ x, l[k]? = some x := ⟨l[k]'(by have := HR.len; omega), List.getElem?_eq_getElem _⟩
        rcases HR.at' with h0 | ⟨b, off, rfl, hbl, hcell⟩
        · omega
        have hoa := hcell k x hx
        have hb200 := HS.out.2 k x hx
        have HOA := Lib.hid hoa
        obtain ⟨c0, c1, c2, -, -, -⟩ := hoa
        have hbs := hb.out.size
        clear HR hcell hx
        obtain ⟨xk, xa, xn, xc, xl, xq⟩ := x
        dsimp only at c0 c1 c2 hb200
        have hw : (xk = 0 ∧ xn = 0) ∨ (xk = 0 ∧ 0 < xn) ∨ (xk ≠ 0) := by omega
        rcases hw with ⟨rfl, rfl⟩ | ⟨rfl, hpos⟩ | hne
        · go_wp2_with fail
          refine (do_nil 0 xa 0 xc xq _).mono ?_
          rintro e w1 ⟨rfl, hb1⟩
          rw [if_pos rfl, show nilE 0 = 0 from rfl]
          obtain ⟨e0, e1, -, -, -, -⟩ := opStays _ _ _ _ _ HOA.out hbl hb1
          have HB1 := Lib.hid (hb.out.trans (hb1.mono hbs))
          dsimp only at e0 e1
          clear hb1
          go_wp2_with fail
          refine (bytes_nil _).mono ?_
          rintro e w' ⟨rfl, rfl⟩
          go_wp2_with fail
          refine (sure_nil _).mono ?_
          rintro e w' ⟨rfl, rfl⟩
          go_wp2
          go_roundw
          case rel => exact ⟨k + 1, by omega, by go_num, HB1⟩
          case measure => simp [intOf]; omega
        · have q1 : ((xn : Int) == 0) = false := by rw [beq_eq_false_iff_ne]; omega
          go_wp2_with fail
          refine (do_nil 0 xa xn xc xq _).mono ?_
          rintro e w1 ⟨rfl, hb1⟩
          rw [if_pos rfl, show nilE xn = 28 from if_neg (by omega)]
          obtain ⟨e0, e1, -, -, -, -⟩ := opStays _ _ _ _ _ HOA.out hbl hb1
          have HB1 := Lib.hid (hb.out.trans (hb1.mono hbs))
          dsimp only at e0 e1
          clear hb1
          go_wp2_with fail
          refine (bytes_nil _).mono ?_
          rintro e w' ⟨rfl, rfl⟩
          go_wp2_with fail
          refine (sure_nil _).mono ?_
          rintro e w' ⟨rfl, rfl⟩
          go_wp2
          go_roundw
          case rel => exact ⟨k + 1, by omega, by go_num, HB1⟩
          case measure => simp [intOf]; omega
        · have q1 : (xk == 0) = false := by rw [beq_eq_false_iff_ne]; exact hne
          have q2 : (xk != 0) = true := by rw [bne_iff_ne]; exact hne
          have HNE := Lib.hid hne; clear hne
          go_wp2_with fail
          refine (do_nil xk xa xn xc xq _).mono ?_
          rintro e w1 ⟨rfl, hb1⟩
          rw [if_neg HNE.out]
          obtain ⟨e0, e1, -, -, -, -⟩ := opStays _ _ _ _ _ HOA.out hbl hb1
          have HB1 := Lib.hid (hb.out.trans (hb1.mono hbs))
          dsimp only at e0 e1
          clear hb1
          go_wp2_with fail
          refine (bytes_nil _).mono ?_
          rintro e w' ⟨rfl, rfl⟩
          go_wp2_with fail
          refine (sure_nil _).mono ?_
          rintro e w' ⟨rfl, rfl⟩
          go_wp2
          go_roundw
          case rel => exact ⟨k + 1, by omega, by go_num, HB1⟩
          case measure => simp [intOf]; omega
      · obtain rfl : k = n := by omega
        go_wp2_with fail
        refine (awake_any _).mono ?_
        rintro e w5 ⟨rfl, hb5⟩
        go_wp2
        go_ret
        exact ⟨rfl, hb.out.trans (hb5.mono hb.out.size)⟩
end Go.Proofs.Ytcncfljpbbpaoaa.dv
