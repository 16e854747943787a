/-
  Layer 38: contracts of the document's Check and Turned.
-/
import Derived.Test.YtcncfljpbbpaoaaRegRest
import Derived.Deep.RegionHeldLaw
namespace Go.Proofs.Ytcncfljpbbpaoaa.rg
open Go.ChangeShapes Go.WideShapes Go.ChangeAt Go.RowKit
open bs
set_option linter.unusedVariables false

structure StrAt (w : World) (b o : Nat) (s : ByteArray) : Prop where
  c0 : w.cell? ⟨b, o, none⟩ = some (.string s)
theorem strStays : Stays StrAt := fun w w' b o x h hb hbel => ⟨by rw [hbel.cell (p := ⟨b, o, none⟩) hb]; exact h.c0⟩
theorem str_recs {w : World} {base : Nat} {e : TypeId} {a : Option Addr} {n c : Nat} {l : List ByteArray} (h : OwnS 1 scells w base e a n c l) : Recs 1 StrAt w a n c l :=
  h.recs (by decide) (fun _ => rfl) StrAt (fun b o x _ hx => ⟨hx 0 _ rfl⟩)

set_option maxRecDepth 100000 in
set_option maxHeartbeats 2000000 in
theorem rcheck_any (p q : ByteArray) (a : Option Addr) (n c : Nat) (l : List Reg) (w : World) (h : Recs 4 RegAt w a n c l) (hp : p.size ≤ 9223372036854775807) (hq : q.size ≤ 9223372036854775807) (hn : n ≤ 100000) :
    Calls Try.prog 24 #[.string p, .string q, .slice a n c] w fun e w' => e = .returned (.int .i64 (chk p q l)) ∧ Below w.heap.size w w' := by
  have hm := h.most
  have hk := h.cap
  have hln := h.len
  have HX := Lib.hid h; clear h
  have HM := Lib.hid (rmay_any p.size q.size a n c l w HX.out hp hq)
  cases hma : may p.size q.size (-1) (-1) l with
  | false =>
    have hv : chk p q l = 13 := by unfold chk; rw [hma]; rfl
    have HV := Lib.hid hv
    clear hv
    go_enter Try.func24, Try.ntmps24
    go_wp2_with fail
    refine (HM.out).mono ?_
    rintro e w1 ⟨rfl, hb1⟩
    rw [hma]
    clear hma
    go_wp2
    go_ret
    exact ⟨ret_int HV.out.symm, hb1⟩
  | true =>
    have hv : chk p q l = if corr p q 0 0 l then 0 else 21 := by unfold chk; rw [hma]; rfl
    obtain ⟨okp, okq⟩ := may_ok p.size q.size l hma
    rw [corr_rest p q l 0 0] at hv
    have hlp := restP_len p l 0
    have hlq := restQ_len q l 0
    have HOP := Lib.hid okp; have HOQ := Lib.hid okq
    have HV := Lib.hid hv; have HMA := Lib.hid hma
    clear hv okp okq
    have HRP := Lib.hid (fun w1 (hb1 : Below w.heap.size w w1) => restP_any p a n c l w1 (HX.out.below regStays hb1) hp (by omega) HOP.out)
    have HRQ := Lib.hid (fun w1 (hb1 : Below w.heap.size w w1) => restQ_any q a n c l w1 (HX.out.below regStays hb1) hq (by omega) HOQ.out)
    generalize restP p 0 l = LP at hlp HV HRP
    generalize restQ q 0 l = LQ at hlq HV HRQ
    go_enter Try.func24, Try.ntmps24
    go_wp2_with fail
    refine (HM.out).mono ?_
    rintro e w1 ⟨rfl, hb1⟩
    rw [HMA.out]
    have HB1 := Lib.hid hb1; have hs1 := hb1.size
    clear hb1
    go_wp2_with fail
    refine (HRP.out w1 HB1.out).mono ?_
    rintro e w2 ⟨aP, nP, cP, rfl, hoP, hb2⟩
    have HB2 := Lib.hid (HB1.out.trans (hb2.mono hs1)); have hs2 := hb2.size
    have HOP2 := Lib.hid hoP
    clear hoP hb2
    go_wp2_with fail
    refine (HRQ.out w2 HB2.out).mono ?_
    rintro e w3 ⟨aQ, nQ, cQ, rfl, hoQ, hb3⟩
    have HB3 := Lib.hid (HB2.out.trans (hb3.mono HB2.out.size))
    have HSP := Lib.hid (str_recs (HOP2.out.below hb3)); have HSQ := Lib.hid (str_recs hoQ)
    have hnP : nP = n + 1 := by have := HSP.out.len; omega
    have hnQ : nQ = n + 1 := by have := HSQ.out.len; omega
    subst hnP hnQ
    have hcP := HSP.out.cap; have hmP := HSP.out.most; have hcQ := HSQ.out.cap; have hmQ := HSQ.out.most
    clear hoQ hb3 HOP2 HRP HRQ HM
    go_wp2
    go_loopw [9] (fun i wr => ∃ k d : Nat, k ≤ n + 1 ∧ i = .int .i64 k ∧ wr = w3.drewN d ∧ Hid (LP.take k = LQ.take k)) (fun i _ => n + 1 - (intOf i).toNat)
    case atStart => exact ⟨0, 0, by omega, rfl, rfl, rfl⟩
    case round =>
      obtain ⟨k, d, hkn, rfl, rfl, htk⟩ := hrel
      by_cases hlt : k < n + 1
      · obtain ⟨sP, hsP⟩ : ∃ s, LP[k]? = some s := ⟨LP[k]'(by omega), List.getElem?_eq_getElem _⟩
        obtain ⟨sQ, hsQ⟩ : ∃ s, LQ[k]? = some s := ⟨LQ[k]'(by omega), List.getElem?_eq_getElem _⟩
        have HRp := HSP.out; have HRq := HSQ.out
        rcases HRp.at' with h0 | ⟨gP, oP, rfl, _, hcellP⟩
        · omega
        rcases HRq.at' with h0 | ⟨gQ, oQ, rfl, _, hcellQ⟩
        · omega
        have cP0 := (hcellP k sP hsP).c0
        have cQ0 := (hcellQ k sQ hsQ).c0
        rw [Nat.mul_one] at cP0 cQ0
        have hTE := text_eq sP sQ
        have HTP : Hid (LP.take (k + 1) = LP.take k ++ [sP]) := by rw [List.take_add_one, hsP]; rfl
        have HTQ : Hid (LQ.take (k + 1) = LQ.take k ++ [sQ]) := by rw [List.take_add_one, hsQ]; rfl
        have HKP := Lib.hid hsP; have HKQ := Lib.hid hsQ
        clear HRp HRq hcellP hcellQ hsP hsQ
        by_cases hB : sP = sQ
        · rw [decide_eq_true hB] at hTE
          have HN : Hid (LP.take (k + 1) = LQ.take (k + 1)) := Lib.hid (by rw [HTP.out, HTQ.out, htk.out, hB])
          clear hB
          go_wp2_with fail
          go_quiet (fail)
          go_wp2
          go_roundw
          case rel => exact ⟨k + 1, _, by omega, by go_num, rfl, HN⟩
          case measure => simp [intOf]; omega
        · rw [decide_eq_false hB] at hTE
          have hv : chk p q l = 21 := by
            rw [HV.out, decide_eq_false (fun h => hB (by have h1 := HKP.out; rw [h, HKQ.out] at h1; exact (Option.some.inj h1).symm))]; rfl
          have HC := Lib.hid hv
          clear hB hv
          go_wp2_with fail
          go_quiet (fail)
          go_wp2
          go_ret
          exact ⟨ret_int HC.out.symm, below_drewN (below_drewN HB3.out d) _⟩
      · obtain rfl : k = n + 1 := by omega
        have hv : chk p q l = 0 := by
          have h1 := htk.out
          rw [List.take_of_length_le (by omega), List.take_of_length_le (by omega)] at h1
          rw [HV.out, decide_eq_true h1]; rfl
        have HC := Lib.hid hv
        clear hv
        go_wp2
        go_ret
        exact ⟨ret_int HC.out.symm, below_drewN HB3.out _⟩

def rcells (r : Reg) : List Value := [.int .i64 r.fp, .int .i64 r.tp, .int .i64 r.fq, .int .i64 r.tq]
theorem regT : RecT Try.prog 28 39 (.agg #[.int .i64 0, .int .i64 0, .int .i64 0, .int .i64 0]) 4 32 := ⟨Try.underlying28, by kernel_rfl, by kernel_rfl⟩
theorem reg_new (w : World) : OwnS 4 rcells (w.alloc (.cells #[] 39)) w.heap.size 39 (some ⟨w.heap.size, 0, none⟩) 0 0 ([] : List Reg) :=
  ⟨⟨rfl, .inr ⟨w.heap.size, 0, #[], rfl, Nat.le_refl _, heap_alloc_new w _, Nat.le_refl _, Nat.zero_le _, rfl, rfl⟩⟩, rfl⟩
theorem src_newr (W : World) (cs : List Value) (e : TypeId) : ∀ j u, cs[j]? = some u → (W.alloc (.cells cs.toArray e)).drew.cell? ((⟨W.heap.size, 0, none⟩ : Addr).add j) = some u := src_new W cs e

set_option maxRecDepth 100000 in
set_option maxHeartbeats 2000000 in
theorem turned_any (a : Option Addr) (n c : Nat) (l : List Reg) (w : World) (h : Recs 4 RegAt w a n c l) (hn : n ≤ 100000) :
    Calls Try.prog 25 #[.slice a n c] w (RPost w (l.map turnR)) := by
  have hm := h.most
  have hk := h.cap
  have HX := Lib.hid h; clear h
  have HIn : Hid (∀ r ∈ l.map turnR, In64 r.fp ∧ In64 r.tp ∧ In64 r.fq ∧ In64 r.tq) := fun r hr => by
    obtain ⟨s, hs, rfl⟩ := List.mem_map.1 hr
    obtain ⟨k, hk⟩ := List.mem_iff_getElem?.1 hs
    have hx := HX.out
    rcases hx.at' with h0 | ⟨b, off, _, _, hc⟩
    · have := hx.len; have := (List.getElem?_eq_some_iff.1 hk).1; omega
    · obtain ⟨_, _, _, _, i0, i1, i2, i3⟩ := hc k s hk
      exact ⟨i2, i3, i0, i1⟩
  go_enter Try.func25, Try.ntmps25
  go_wp2
  go_loopw [3, 4] (fun out i wr => ∃ (k : Nat) (a2 : Option Addr) (c2 : Nat), k ≤ n ∧ i = .int .i64 k ∧ out = .slice a2 k c2 ∧ Hid (Below w.heap.size w wr) ∧ Hid (OwnS 4 rcells wr w.heap.size 39 a2 k c2 ((l.take k).map turnR))) (fun _ i _ => n - (intOf i).toNat)
  case atStart => exact ⟨0, _, 0, by omega, rfl, rfl, (Below.refl _ _).alloc (Nat.le_refl _) _, reg_new w⟩
  case round =>
    obtain ⟨k, a2, c2, hkn, rfl, rfl, hb, ho⟩ := hrel
    have hbs := hb.out.size
    by_cases hlt : k < n
    · obtain ⟨x, hx⟩ : ∃ x, l[k]? = some x := ⟨l[k]'(by have := HX.out.len; omega), List.getElem?_eq_getElem _⟩
      have HRw := HX.out
      rcases HRw.at' with h0 | ⟨b, off, rfl, hbl, hcell⟩
      · omega
      have hex := hcell k x hx
      have Kx : Hid (∀ V, Below w.heap.size w V → V.cell? ⟨b, off + k * 4, none⟩ = some (.int .i64 x.fp) ∧ V.cell? ⟨b, off + k * 4 + 1, none⟩ = some (.int .i64 x.tp) ∧ V.cell? ⟨b, off + k * 4 + 2, none⟩ = some (.int .i64 x.fq) ∧ V.cell? ⟨b, off + k * 4 + 3, none⟩ = some (.int .i64 x.tq)) := fun V hV => by
        have := regStays _ _ _ _ _ hex hbl hV
        exact ⟨this.c0, this.c1, this.c2, this.c3⟩
      have htk : (l.take (k + 1)).map turnR = (l.take k).map turnR ++ [turnR x] := by rw [List.take_add_one, hx, List.map_append]; rfl
      have HTK := Lib.hid htk
      clear hcell hex hx htk HRw
      obtain ⟨xfp, xtp, xfq, xtq⟩ := x
      dsimp only [turnR] at Kx HTK
      have h1c : ∀ v ∈ rcells ⟨xfq, xtq, xfp, xtp⟩, v.oneCell' = true := by
        intro v hv; simp only [rcells, List.mem_cons, List.not_mem_nil, or_false] at hv; rcases hv with rfl | rfl | rfl | rfl <;> rfl
      have hm1 : k + 1 ≤ maxLen := by unfold maxLen; omega
      have hn1 : (k + 1) * 32 ≤ 140737488355328 := by omega
      go_wp2_with fail
      go_region_held_law (fun V => V.cell? ⟨b, off + k * 4, none⟩ = some (.int .i64 xfp) ∧ V.cell? ⟨b, off + k * 4 + 1, none⟩ = some (.int .i64 xtp) ∧ V.cell? ⟨b, off + k * 4 + 2, none⟩ = some (.int .i64 xfq) ∧ V.cell? ⟨b, off + k * 4 + 3, none⟩ = some (.int .i64 xtq))
        (first | exact Kx.out _ (Below.drew hb.out) | exact Kx.out _ (Below.alloc (Below.drew hb.out) hbs _) | exact Kx.out _ (Below.drew (Below.alloc hb.out hbs _)) | exact Kx.out _ HB7.out)
        (((first
            | refine step_append_s regT (by decide) (by rfl) (.tmp 12) (.tmp 34) (by rfl) w.heap.size (by rfl) ((ho.out.below (Below.drew (Below.refl _ _))).below ((Below.refl _ _).alloc (Nat.le_refl _) _)) (by rfl) ⟨xfq, xtq, xfp, xtp⟩ rfl h1c (src_new _ (rcells ⟨xfq, xtq, xfp, xtp⟩) 39) hn1 hm1 (Below.alloc (Below.drew hb.out) hbs _).size ?_
            | refine step_append_s regT (by decide) (by rfl) (.tmp 12) (.tmp 34) (by rfl) w.heap.size (by rfl) ((ho.out.below ((Below.refl _ _).alloc (Nat.le_refl _) _)).below (Below.drew (Below.refl _ _))) (by rfl) ⟨xfq, xtq, xfp, xtp⟩ rfl h1c (src_newr _ (rcells ⟨xfq, xtq, xfp, xtp⟩) 39) hn1 hm1 (Below.drew (Below.alloc hb.out hbs _)).size ?_); intro a7 c7 w7 ho7 hb7 hg7; (have HB7 : Hid (Below w.heap.size w w7) := (by first | exact (Below.alloc (Below.drew hb.out) hbs _).trans hb7 | exact (Below.drew (Below.alloc hb.out hbs _)).trans hb7)); (have HO7 := Lib.hid ho7); clear ho7 hb7 hg7))
      go_wp2
      go_roundw
      case rel => exact ⟨k + 1, a7, c7, by omega, by go_num, rfl, HB7.out, by rw [HTK.out]; exact HO7.out⟩
      case measure => simp [intOf]; omega
    · obtain rfl : k = n := by omega
      have hl : l.take k = l := List.take_of_length_le (by have := HX.out.len; omega)
      rw [hl] at ho
      go_wp2
      go_ret
      refine ⟨a2, k, c2, rfl, ho.out.recs (by decide) (fun _ => rfl) RegAt (fun b o x hx hc => ?_), hb.out⟩
      obtain ⟨i0, i1, i2, i3⟩ := HIn.out x hx
      exact ⟨hc 0 _ rfl, hc 1 _ rfl, hc 2 _ rfl, hc 3 _ rfl, i0, i1, i2, i3⟩
end Go.Proofs.Ytcncfljpbbpaoaa.rg
