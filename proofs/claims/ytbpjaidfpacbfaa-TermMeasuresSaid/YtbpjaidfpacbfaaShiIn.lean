/-
  Layer 14: how many locals a term brings around a part; a local's number from outside.
-/
import Derived.Test.YtbpjaidfpacbfaaTrmSames
namespace Go.Proofs.Ytbpjaidfpacbfaa.te
open Go.ChangeShapes Go.WideShapes Go.ChangeAt Go.RowKit
open bs tr
set_option linter.unusedVariables false

def brB (t : VT) : Bool := t.lab.k == 20 || t.lab.k == 21
def brC (l : List VT) (k : Nat) : Nat := ((l.take k).filter brB).length
theorem brC_zero (l : List VT) : brC l 0 = 0 := by simp [brC]
theorem brC_succ {l : List VT} {k : Nat} {x : VT} (h : l[k]? = some x) : brC l (k + 1) = brC l k + (if brB x = true then 1 else 0) := by
  unfold brC
  rw [List.take_add_one, h]
  by_cases hb : brB x = true
  · simp [hb]
  · simp [hb]
theorem brC_le (l : List VT) (k : Nat) : brC l k ≤ l.length := by
  unfold brC
  exact Nat.le_trans (List.length_filter_le _ _) (by rw [List.length_take]; omega)
def fst (l : List VT) : Nat := match l with | [] => 0 | y :: _ => y.kids.length
def inn (x : Lab) (l : List VT) (i : Int) : Nat := if i < 0 ∨ (l.length : Int) ≤ i then 0 else if x.k = 29 then brC l i.toNat else if x.k = 25 ∧ i = 2 then 1 else if x.k = 33 ∧ i = 2 then fst l else 0
theorem inn_le (x : Lab) (l : List VT) (i : Int) : inn x l i ≤ Tr.size (Tr.mk x l) := by
  have h1 := Tr.len_size (x := x) (l := l)
  have h2 := brC_le l i.toNat
  have h3 : fst l ≤ Tr.size (Tr.mk x l) := by
    cases l with
    | nil => exact Nat.zero_le _
    | cons y l =>
      have := Tr.size_le (x := x) (l := y :: l) (y := y) (by simp)
      cases y with
      | mk z m => have := Tr.len_size (x := z) (l := m); show m.length ≤ _; omega
  unfold inn
  split
  · omega
  · split
    · omega
    · split
      · omega
      · split <;> omega
def outr (n d : Int) : Int := if n < d then -1 else n - d

def NP (z : Int) (w : World) (e : Ending) (w' : World) : Prop := e = .returned (.int .i64 z) ∧ Below w.heap.size w w'
def BBP (b : Bool) (w : World) (e : Ending) (w' : World) : Prop := e = .returned (.bool b) ∧ Below w.heap.size w w'

set_option maxRecDepth 100000 in
theorem brings_any (a : Vn) (w : World) : Calls Try.prog 67 #[A6 a] w (BBP (brB a.tr) w) := by
  have HB := Lib.hid (below_alloc w (.cells #[.int .i64 a.x.k, .int .i64 a.x.n, .string a.x.s, .slice a.a a.m a.c, .int .i64 a.x.f, .int .i64 a.x.t] 24))
  have hb : brB a.tr = (a.x.k == 20 || a.x.k == 21) := rfl
  go_enter Try.func67, Try.ntmps67
  by_cases h1 : a.x.k = 20
  · have e1 : (a.x.k == 20) = true := by rw [beq_iff_eq]; exact h1
    clear h1
    go_wp2
    go_ret
    exact ⟨by rw [hb, e1]; rfl, HB.out⟩
  · by_cases h2 : a.x.k = 21
    · have e1 : (a.x.k == 20) = false := by rw [beq_eq_false_iff_ne]; exact h1
      have e2 : (a.x.k == 21) = true := by rw [beq_iff_eq]; exact h2
      clear h2
      go_wp2
      go_ret
      exact ⟨by rw [hb, e1, e2]; rfl, HB.out⟩
    · have e1 : (a.x.k == 20) = false := by rw [beq_eq_false_iff_ne]; exact h1
      have e2 : (a.x.k == 21) = false := by rw [beq_eq_false_iff_ne]; exact h2
      go_wp2
      go_ret
      exact ⟨by rw [hb, e1, e2]; rfl, HB.out⟩

set_option maxRecDepth 100000 in
set_option maxHeartbeats 2000000 in
theorem brought_any (a : Option Addr) (n c : Nat) (l : List VT) (w : World) (h : VS w a n c l) (hn : n ≤ 100000) : Calls Try.prog 59 #[.slice a n c] w (NP ((brC l n : Nat) : Int) w) := by
  have hcap := h.cap; have hmost := h.most
  have H := Lib.hid h; have HL := Lib.hid h.len
  clear h
  go_enter Try.func59, Try.ntmps59
  go_wp2_with fail
  go_loopw [3, 5, 8] (fun s3 s5 i wr => ∃ k : Nat, k ≤ n ∧ i = .int .i64 k ∧ s3 = .int .i64 ((brC l k : Nat) : Int) ∧ Hid (Below w.heap.size w wr)) (fun _ _ i _ => n - (intOf i).toNat)
  case atStart => exact ⟨0, by omega, rfl, by rw [brC_zero]; rfl, Lib.hid (Below.refl _ _)⟩
  case round =>
    obtain ⟨k, hk2, rfl, rfl, HR⟩ := hrel
    by_cases hlt : k < n
    · obtain ⟨b1, o1, x1, rfl, hb1, hx1, hc1⟩ := recs_at (H.out.below va_stays HR.out) hlt
      obtain ⟨x, hv1, hr1, c10, c11, c12, c13, c14, c15⟩ := VA.out hc1
      have HS := Lib.hid (brC_succ hx1)
      have HV := Lib.hid hv1
      have hle : brC l k ≤ n := Nat.le_trans (brC_le l k) (Nat.le_of_eq HL.out)
      have hA : Below wr.heap.size wr (wr.alloc (.cells #[.int .i64 x.x.k, .int .i64 x.x.n, .string x.x.s, .slice x.a x.m x.c, .int .i64 x.x.f, .int .i64 x.x.t] 24)) := below_alloc _ _
      have HA := Lib.hid (HR.out.trans (hA.mono HR.out.size))
      have HX8 := Lib.hid (vb_new wr x)
      clear hv1 hr1 hx1 hc1 hA
      go_upto_region 5 with fail
      generalize hV : wr.alloc (.cells #[.int .i64 x.x.k, .int .i64 x.x.n, .string x.x.s, .slice x.a x.m x.c, .int .i64 x.x.f, .int .i64 x.x.t] 24) = V0 at HA HX8 ⊢
      clear hV c10 c11 c12 c13 c14 c15
      go_wp2_with (refine wpList_load_T rfl _ rfl rfl HX8.out ?_)
      refine (brings_any x V0).mono ?_
      rintro e w2 ⟨rfl, hb2⟩
      have HB2 := Lib.hid (HA.out.trans (hb2.mono HA.out.size))
      clear hb2
      rw [HV.out]
      cases hbb : brB x1 with
      | true =>
        have hs : brC l (k + 1) = brC l k + 1 := by rw [HS.out, hbb]; rfl
        have HSS := Lib.hid hs
        have hw : IntKind.i64.wrap (((brC l k : Nat) : Int) + 1) = ((brC l k + 1 : Nat) : Int) := by rw [IntWalk.i64_in _ (by omega)]; omega
        clear hs
        go_wp2
        go_roundw
        case rel => exact ⟨k + 1, by omega, by go_num, (by rw [HSS.out]; try go_num), HB2⟩
        case measure => simp [intOf]; omega
      | false =>
        have hs : brC l (k + 1) = brC l k := by rw [HS.out, hbb]; rfl
        have HSS := Lib.hid hs
        clear hs
        go_wp2
        go_roundw
        case rel => exact ⟨k + 1, by omega, by go_num, (by rw [HSS.out]; try go_num), HB2⟩
        case measure => simp [intOf]; omega
    · obtain rfl : k = n := by omega
      go_wp2
      go_ret
      exact ⟨rfl, HR.out⟩

theorem slice_head_t (a : Option Addr) (n c i : Nat) (h : i ≤ n) (hc : n ≤ c) (hm : c ≤ 9223372036854775807) (W : World) :
    (Instr.sliceAt 22 (.slice a n c) none (some (.int .i64 i)) none).run Try.prog W = .ok (.slice a i c) W := by
  have e1 : ¬ (i : Int) < 0 := by omega
  have e2 : ¬ (c : Int) < i := by omega
  have e3 : (i : Int).toNat = i := by omega
  rcases a with _ | x
  · simp [Instr.sliceAt, Instr.slice, Instr.sliceBounds, Instr.sliceBound, asIntOf, go_sem, h]; try omega
  · simp [Instr.sliceAt, Instr.slice, Instr.sliceBounds, Instr.sliceBound, asIntOf, go_sem, h]; try omega
theorem head_recs {w : World} {a : Option Addr} {n c : Nat} {l : List VT} (h : VS w a n c l) (i : Nat) (hi : i ≤ n) : VS w a i c (l.take i) := by
  refine ⟨by rw [List.length_take, h.len]; omega, by have := h.cap; omega, h.most, h.nil, ?_⟩
  rcases h.at' with h0 | ⟨b, off, ha, hb, hc⟩
  · exact .inl (by omega)
  · refine .inr ⟨b, off, ha, hb, fun j x hj => hc j x ?_⟩
    rw [List.getElem?_take] at hj
    by_cases hji : j < i
    · rwa [if_pos hji] at hj
    · rw [if_neg hji] at hj; cases hj
theorem brC_take (l : List VT) (i : Nat) : brC (l.take i) i = brC l i := by unfold brC; rw [List.take_take, Nat.min_self]

set_option maxRecDepth 100000 in
set_option maxHeartbeats 2000000 in
theorem in_any (v : Vn) (i : Int) (w : World) (hv : v.Rd w) (hm : v.m ≤ 100000) (hi0 : -9223372036854775808 ≤ i) (hi1 : i ≤ 9223372036854775807) : Calls Try.prog 33 #[A6 v, .int .i64 i] w (NP ((inn v.x v.l i : Nat) : Int) w) := by
  obtain ⟨x, a, m, c, l⟩ := v
  obtain ⟨hvl, hvx⟩ := hv
  dsimp only at hvl hvx hm
  have hcap := hvl.cap; have hmost := hvl.most
  have hW := below_alloc w (.cells #[.int .i64 x.k, .int .i64 x.n, .string x.s, .slice a m c, .int .i64 x.f, .int .i64 x.t] 24)
  have HW := Lib.hid hW; have HV := Lib.hid (hvl.below va_stays hW); have HL := Lib.hid hvl.len
  have HX := Lib.hid (vb_new w ⟨x, a, m, c, l⟩)
  clear hvl hvx hW
  show Calls Try.prog 33 #[.agg #[.int .i64 x.k, .int .i64 x.n, .string x.s, .slice a m c, .int .i64 x.f, .int .i64 x.t], .int .i64 i] w (NP ((inn x l i : Nat) : Int) w)
  go_enter Try.func33, Try.ntmps33
  by_cases h1 : i < 0
  · go_wp2
    go_ret
    exact ⟨by rw [inn, if_pos (.inl h1)]; rfl, HW.out⟩
  by_cases h2 : (m : Int) ≤ i
  · go_wp2
    go_ret
    exact ⟨by rw [inn, if_pos (.inr (by rw [HL.out]; exact h2))]; rfl, HW.out⟩
  obtain ⟨j, rfl⟩ : ∃ j : Nat, i = j := ⟨i.toNat, by omega⟩
  have hin : inn x l (j : Int) = if x.k = 29 then brC l j else if x.k = 25 ∧ (j : Int) = 2 then 1 else if x.k = 33 ∧ (j : Int) = 2 then fst l else 0 := by
    rw [inn, if_neg (by rw [HL.out]; omega), Int.toNat_natCast]
  rw [hin]
  have hs := fun W => slice_head_t a m c j (by omega) hcap hmost W
  clear hin
  by_cases h3 : x.k = 29
  · rw [if_pos h3]
    have e3 : (x.k == 29) = true := by rw [beq_iff_eq]; exact h3
    clear h3
    go_wp2_with fail
    refine (brought_any a j c (l.take j) _ (head_recs HV.out j (by omega)) (by omega)).mono ?_
    rintro e w2 ⟨rfl, hb2⟩
    rw [brC_take]
    have HB2 := Lib.hid (HW.out.trans (hb2.mono HW.out.size))
    clear hb2 hs
    go_wp2
    go_ret
    exact ⟨rfl, HB2.out⟩
  rw [if_neg h3]
  have e3 : (x.k == 29) = false := by rw [beq_eq_false_iff_ne]; exact h3
  by_cases h4 : x.k = 25 ∧ (j : Int) = 2
  · rw [if_pos h4]
    obtain ⟨h5, h6⟩ := h4
    have hj : j = 2 := by omega
    subst hj
    have e4 : (x.k == 25) = true := by rw [beq_iff_eq]; exact h5
    clear h5 h3 h6
    go_wp2
    go_ret
    exact ⟨rfl, HW.out⟩
  rw [if_neg h4]
  by_cases h5 : x.k = 33 ∧ (j : Int) = 2
  · rw [if_pos h5]
    obtain ⟨h6, h7⟩ := h5
    have hj : j = 2 := by omega
    subst hj
    have e4 : (x.k == 25) = false := by rw [beq_eq_false_iff_ne]; exact fun h => h4 ⟨h, rfl⟩
    have e5 : (x.k == 33) = true := by rw [beq_iff_eq]; exact h6
    clear h6 h7 h3
    obtain ⟨b1, o1, x1, rfl, hb1, hx1, hc1⟩ := recs_at HV.out (k := 0) (by omega)
    obtain ⟨y, hv1, hr1, c10, c11, c12, c13, c14, c15⟩ := VA.out hc1
    have hf : fst l = y.m := by
      cases l with
      | nil => simp at hx1
      | cons z l => simp at hx1; subst hx1; show z.kids.length = y.m; rw [← hv1]; exact hr1.1.len
    rw [hf]
    have hyc := hr1.1.cap; have hym := hr1.1.most
    simp only [Nat.zero_mul, Nat.add_zero] at c10 c11 c12 c13 c14 c15
    clear hs hr1 hc1 hx1 hv1 c10 c12 c13 c14 c15 hf h4
    go_wp2
    go_ret
    exact ⟨rfl, HW.out⟩
  rw [if_neg h5]
  by_cases h6 : x.k = 25
  · have h7 : ¬ (j : Int) = 2 := fun h => h4 ⟨h6, h⟩
    have e4 : (x.k == 25) = true := by rw [beq_iff_eq]; exact h6
    have e5 : (x.k == 33) = false := by rw [beq_eq_false_iff_ne, h6]; decide
    have e6 : ((j : Int) == 2) = false := by rw [beq_eq_false_iff_ne]; exact h7
    clear h6 h3 h4 h5 h7
    go_wp2
    go_ret
    exact ⟨rfl, HW.out⟩
  by_cases h7 : x.k = 33
  · have h8 : ¬ (j : Int) = 2 := fun h => h5 ⟨h7, h⟩
    have e4 : (x.k == 25) = false := by rw [beq_eq_false_iff_ne]; exact h6
    have e5 : (x.k == 33) = true := by rw [beq_iff_eq]; exact h7
    have e6 : ((j : Int) == 2) = false := by rw [beq_eq_false_iff_ne]; exact h8
    clear h6 h3 h4 h5 h7 h8
    go_wp2
    go_ret
    exact ⟨rfl, HW.out⟩
  have e4 : (x.k == 25) = false := by rw [beq_eq_false_iff_ne]; exact h6
  have e5 : (x.k == 33) = false := by rw [beq_eq_false_iff_ne]; exact h7
  clear h3 h4 h5 h6 h7
  go_wp2
  go_ret
  exact ⟨rfl, HW.out⟩
end Go.Proofs.Ytbpjaidfpacbfaa.te
