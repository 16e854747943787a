/-
  Layer 6: the document's paths of a term.
-/
import Derived.Test.YtbpjaidfpacbfaaTrmPaths
namespace Go.Proofs.Ytbpjaidfpacbfaa.te
open Go.ChangeShapes Go.WideShapes Go.ChangeAt Go.RowKit
open bs tr
set_option linter.unusedVariables false

theorem mem_pk {l : List VT} {q : List Int} : ∀ k, q ∈ pk l k → ∃ (i : Nat) (y : VT) (q' : List Int), l[i]? = some y ∧ q' ∈ pt y ∧ q = (i : Int) :: q' := by
  intro k
  induction k with
  | zero => intro h; rw [pk_zero] at h; cases h
  | succ k ih =>
    intro h
    rcases hy : l[k]? with _ | y
    · have e : pk l (k + 1) = pk l k := by
        unfold pk
        rw [List.take_add_one, List.getElem?_mapIdx, hy]
        simp
      rw [e] at h
      exact ih h
    · rw [pk_succ hy, List.mem_append] at h
      rcases h with h | h
      · exact ih h
      · obtain ⟨q', h1, h2⟩ := List.mem_map.1 h
        exact ⟨k, y, q', hy, h1, h2.symm⟩
/-- A path is no longer than the term is large. -/
theorem pt_le (t : VT) : ∀ q ∈ pt t, q.length < t.size := by
  induction t using Tr.ind with
  | h x l ih =>
    intro q hq
    rw [pt_mk x l rfl, List.mem_cons] at hq
    rcases hq with rfl | hq
    · exact Tr.size_pos _
    · obtain ⟨i, y, q', h1, h2, rfl⟩ := mem_pk _ hq
      have hm := List.mem_of_getElem? h1
      have h3 := ih y hm q' h2
      have h4 := Tr.size_le (x := x) hm
      rw [List.length_cons]
      omega

section
variable {S : Nat → Prop} {w : World} {ops : Array Oper} {rest : List Oper} {o : Oper} {a : Act} {Q : Exit → Act → World → Prop}
theorem wpList_append_y (hw : Region.wanted o (yielded ops a.tmps) = true) (s y : Operand) (ho : o.op = .call { callee := .builtin .append, args := #[s, y], argTypes := #[27, 27] })
    (base : Nat) {b n c} {L : List Wy} (hs : a.eval s = .slice b n c) (h : Pths S w base b n c L) {ad c'} (hy : a.eval y = .slice (some ad) 1 c') (x : Wy) (hx : x.Rs (fun i => S i ∧ blockOf b ≠ some i) w)
    (hc : ∀ j u, (Wy.cells x)[j]? = some u → w.cell? (ad.add j) = some u) (hn : n + 1 ≤ 1000000) (hbase : base ≤ w.heap.size)
    (k : ∀ a2 c2 w', Pths S w' base a2 (n + 1) c2 (L ++ [x]) → Below base w w' → w.grownBy w' (blockOf b) → (blockOf a2 = blockOf b ∨ blockOf a2 = some w.heap.size) → wpList Try.prog ops Q rest (a.put o.dst (.slice a2 (n + 1) c2)) w') : wpList Try.prog ops Q (o :: rest) a w :=
  BigFrame.wpList_want hw fun K hK => by
    obtain ⟨a2, c2, w', hr, h2, h3, h4, h5⟩ := run_append_y o.type w base h x hx ad c' hc hn hbase
    unfold Oper.wp execOp
    simp only [ho, resolve, invoke, builtin, Sem.run_bind, Sem.run_pure, Result.andThen_ok, List.map_toArray, List.map_cons, List.map_nil, hs, hy, hr]
    exact hK _ _ (k a2 c2 w' h2 h3 h4 h5)
end

/-- One, in a new row. -/
theorem OwnS.made1 {α : Type} {size : Nat} {cells : α → List Value} (w : World) (base : Nat) (e : TypeId) (x : α) (cs : Array Value) (hcs : cs = (cells x).toArray) (hx : (cells x).length = size) (hb : base ≤ w.heap.size) : OwnS size cells (w.alloc (.cells cs e)) base e (some ⟨w.heap.size, 0, none⟩) 1 1 [x] := by
  subst hcs
  refine ⟨⟨by simp [hx], .inr ⟨w.heap.size, 1, _, rfl, hb, heap_alloc_new w _, Nat.le_refl _, by simp [maxLen], by simp [hx], ?_⟩⟩, rfl⟩
  rw [List.take_of_length_le (by simp [hx])]
  simp

theorem Pths.recs {S : Nat → Prop} {w : World} {base : Nat} {a n c} {L : List Wy} (h : Pths S w base a n c L) : Recs 1 (fun w b o (y : Wy) => y.Rs S w ∧ w.cell? ⟨b, o, none⟩ = some (.slice y.a y.n y.c)) w a n c L :=
  OwnS.recs h.own (by decide) wy_len _ (fun b o y hy hc => ⟨(h.rs y hy).weak (fun _ _ h => h.1), hc 0 _ rfl⟩)
theorem kpOf {w w' : World} (h : Below w.heap.size w w') : Kp (· < w.heap.size) w w' := ⟨h.size, fun b hS _ => h.block b hS⟩
/-- The answer is a slice of paths that the call made. -/
def PtP (L : List (List Int)) (w : World) (e : Ending) (w' : World) : Prop := ∃ (a : Option Addr) (n c : Nat) (K : List Wy), e = .returned (.slice a n c) ∧ Pths (fun b => w.heap.size ≤ b) w' w.heap.size a n c K ∧ K.map Wy.l = L ∧ Below w.heap.size w w'

set_option maxRecDepth 100000 in
set_option maxHeartbeats 4000000 in
theorem rpaths_any (t : VT) : ∀ (a : Vn) (w : World), a.tr = t → a.Rd w → t.size ≤ 100000 → Calls Try.prog 13 #[A6 a] w (PtP (pt a.tr) w) := by
  induction t using Tr.ind with
  | h tx tl ih =>
  intro a w hat ha hsz
  obtain ⟨ax, aa, am, ac, al⟩ := a
  cases hat
  obtain ⟨ha, hax⟩ := ha
  dsimp only at ha hax
  have hcapa := ha.cap; have hmosta := ha.most; have hlen := ha.len
  have hsz2 : Tr.size (Tr.mk ax al) ≤ 100000 := hsz
  have hkl : ∀ k, k ≤ al.length → (pk al k).length < 100000 := fun k hk => by
    rw [pk_len al (fun y _ => pt_len y) k hk]
    have h1 : Tr.size (Tr.mk ax al) = 1 + Tr.sumk al al.length := Tr.sumk_all rfl
    have h2 : Tr.sumk al k ≤ Tr.sumk al al.length := by
      unfold Tr.sumk
      rw [List.take_length]
      have : al.map Tr.size = (al.take k).map Tr.size ++ (al.drop k).map Tr.size := by rw [← List.map_append, List.take_append_drop]
      rw [this, List.sum_append]
      omega
    omega
  have hkid : ∀ x ∈ al, x.size ≤ 100000 := fun x hx => by
    have h2 := Tr.size_le (x := ax) hx
    omega
  have hW1 : Below w.heap.size w (((w.alloc (.cells #[.int .i64 ax.k, .int .i64 ax.n, .string ax.s, .slice aa am ac, .int .i64 ax.f, .int .i64 ax.t] 24)).alloc (.cells #[] 3)).alloc (.cells #[.slice (some ⟨w.heap.size + 1, 0, none⟩) 0 0] 33)) := (((Below.refl _ _).alloc (Nat.le_refl _) _).alloc (by simp) _).alloc (by simp; omega) _
  have hX : Blk (((w.alloc (.cells #[.int .i64 ax.k, .int .i64 ax.n, .string ax.s, .slice aa am ac, .int .i64 ax.f, .int .i64 ax.t] 24)).alloc (.cells #[] 3)).alloc (.cells #[.slice (some ⟨w.heap.size + 1, 0, none⟩) 0 0] 33)) w.heap.size #[.int .i64 ax.k, .int .i64 ax.n, .string ax.s, .slice aa am ac, .int .i64 ax.f, .int .i64 ax.t] 24 := ((Blk.new w _ _).below (below_alloc _ _)).below (below_alloc _ _)
  have hP : Pths (fun b => w.heap.size ≤ b) (((w.alloc (.cells #[.int .i64 ax.k, .int .i64 ax.n, .string ax.s, .slice aa am ac, .int .i64 ax.f, .int .i64 ax.t] 24)).alloc (.cells #[] 3)).alloc (.cells #[.slice (some ⟨w.heap.size + 1, 0, none⟩) 0 0] 33)) (w.heap.size + 1) (some ⟨w.heap.size + 1 + 1, 0, none⟩) 1 1 [⟨some ⟨w.heap.size + 1, 0, none⟩, 0, 0, []⟩] := by
    have h := OwnS.made1 (size := 1) (cells := Wy.cells) ((w.alloc (.cells #[.int .i64 ax.k, .int .i64 ax.n, .string ax.s, .slice aa am ac, .int .i64 ax.f, .int .i64 ax.t] 24)).alloc (.cells #[] 3)) (w.heap.size + 1) 33 ⟨some ⟨w.heap.size + 1, 0, none⟩, 0, 0, []⟩ #[.slice (some ⟨w.heap.size + 1, 0, none⟩) 0 0] rfl rfl (by rw [size_alloc, size_alloc]; omega)
    rw [size_alloc, size_alloc] at h
    refine ⟨h, fun y hy => ?_⟩
    rw [List.mem_singleton] at hy
    subst hy
    refine ⟨⟨rfl, Nat.le_refl _, by show 0 ≤ _; omega, by simp [AllI], fun _ => rfl, .inl rfl⟩, fun i hi => ?_⟩
    have e : w.heap.size + 1 = i := by simpa [blockOf] using hi
    subst e
    refine ⟨⟨by omega, fun e => ?_⟩, by rw [size_alloc, size_alloc, size_alloc]; omega⟩
    simp [blockOf] at e
  have HW := Lib.hid hW1; have HX := Lib.hid hX; have HP := Lib.hid hP
  have HA := Lib.hid (Vn.Rd.rs (w := w) (v := ⟨ax, aa, am, ac, al⟩) ⟨ha, hax⟩)
  have HIH := Lib.hid ih; have HLEN := Lib.hid hlen; have HKL := Lib.hid hkl; have HKID := Lib.hid hkid
  clear ha hW1 hX hP ih hlen hsz hsz2 hkl hkid
  go_enter Try.func13, Try.ntmps13
  go_wp2_with fail
  generalize hWW : (((w.alloc (.cells #[.int .i64 ax.k, .int .i64 ax.n, .string ax.s, .slice aa am ac, .int .i64 ax.f, .int .i64 ax.t] 24)).alloc (.cells #[] 3)).alloc (.cells #[.slice (some ⟨w.heap.size + 1, 0, none⟩) 0 0] 33)) = W at HW HX HP ⊢
  clear hWW
  go_loopw [3, 4, 5, 6] (fun s3 i s5 s6 wr => ∃ (k : Nat) (a : Option Addr) (n c : Nat) (K : List Wy), k ≤ am ∧ i = .int .i64 k ∧ s3 = .slice a n c ∧ Hid (Pths (fun b => w.heap.size ≤ b) wr (w.heap.size + 1) a n c K) ∧ Hid (K.map Wy.l = [] :: pk al k) ∧ Hid (Below w.heap.size w wr) ∧ Hid (Blk wr w.heap.size #[.int .i64 ax.k, .int .i64 ax.n, .string ax.s, .slice aa am ac, .int .i64 ax.f, .int .i64 ax.t] 24)) (fun _ i _ _ _ => am - (intOf i).toNat)
  case atStart => exact ⟨0, _, 1, 1, _, by omega, rfl, rfl, HP, Lib.hid (by rw [pk_zero]; rfl), HW, HX⟩
  case round =>
    obtain ⟨k, a, n, c, K, hk2, rfl, rfl, HPr, HKr, HBr, HXr⟩ := hrel
    have HAr := Lib.hid ((HA.out.agree (kpOf HBr.out)).rd')
    have p1 := HXr.out.cell 3
    simp at p1
    by_cases hlt : k < am
    · obtain ⟨b1, o1, x1, rfl, hb1, hx1, hc1⟩ := recs_at HAr.out.1 hlt
      obtain ⟨v1, hv1, hr1, c10, c11, c12, c13, c14, c15⟩ := VA.out hc1
      have HR1 := Lib.hid hr1
      have HV1 := Lib.hid hv1
      have hmem : x1 ∈ al := List.mem_of_getElem? hx1
      have HMEM := Lib.hid hmem
      have HX1 := Lib.hid hx1
      have hb2 := HKID.out x1 hmem
      clear hr1 hv1 hx1 hmem hc1
      obtain ⟨z1, aa1, am1, ac1, al1⟩ := v1
      dsimp only at c10 c11 c12 c13 c14 c15
      go_wp2_with fail
      refine (HIH.out x1 HMEM.out ⟨z1, aa1, am1, ac1, al1⟩ _ HV1.out HR1.out hb2).mono ?_
      rintro e w3 ⟨ai, ni, ci, KI, rfl, hp3, hm3, hb3⟩
      rw [HV1.out] at hm3
      have hni : ni = (pt x1).length := by rw [← hm3, List.length_map]; exact hp3.own.num.symm
      have hn1 : n = (pk al k).length + 1 := by have := HPr.out.own.num; have e := congrArg List.length HKr.out; rw [List.length_map, List.length_cons] at e; omega
      have hkl2 := HKL.out (k + 1) (by rw [HLEN.out]; omega)
      rw [pk_succ HX1.out, List.length_append, List.length_map] at hkl2
      have hnn : n + ni ≤ 200000 := by omega
      have hrow : ∀ i, blockOf a = some i → i < wr.heap.size := fun i hi => (OwnS.blockLt HPr.out.own hi).2
      have hinn : ∀ i, blockOf ai = some i → wr.heap.size ≤ i ∧ i < w3.heap.size := fun i hi => OwnS.blockLt hp3.own hi
      have hpi : Pths (fun b => wr.heap.size ≤ b ∧ b < w3.heap.size) w3 wr.heap.size ai ni ci KI := hp3.weak (fun b h1 h2 => ⟨h2, h1⟩)
      have hci : ni ≤ ci ∧ ci ≤ 9223372036854775807 := ⟨hp3.reads.cap, hp3.reads.most⟩
      obtain ⟨hci1, hci2⟩ := hci
      have hmx : ∀ y ∈ KI, y.n ≤ 100000 := fun y hy => by
        have h1 : y.l ∈ pt x1 := by rw [← hm3]; exact List.mem_map_of_mem hy
        have h2 := pt_le x1 y.l h1
        have h3 := (hp3.rs y hy).rd.len
        omega
      have HMX := Lib.hid hmx
      have HNI := Lib.hid hni; have HM3 := Lib.hid hm3; have HINN := Lib.hid hinn
      have HP3 := Lib.hid (HPr.out.below hb3); have HB3 := Lib.hid (HBr.out.trans (hb3.mono HBr.out.size)); have HX3 := Lib.hid (HXr.out.below hb3)
      have hws : wr.heap.size ≤ w3.heap.size := hb3.size
      have HWS := Lib.hid hws
      have HPI := Lib.hid hpi
      have hap : ∀ i, blockOf a = some i → i < wr.heap.size ∨ w3.heap.size ≤ i := fun i hi => .inl (hrow i hi)
      have HAP := Lib.hid hap
      have HROW := Lib.hid hrow
      have hx0 : w.heap.size < wr.heap.size := HXr.out.lt
      clear hni hn1 hkl2 hm3 hp3 hb3 hpi hap hinn hrow hws hmx c10 c11 c12 c13 c14 c15 p1
      go_wp2_with fail
      obtain ⟨Wo, hWoe⟩ : ∃ Wo, Wo = wr := ⟨wr, rfl⟩
      subst hWoe
      go_loopw [3, 6] (fun s3 j V => ∃ (q : Nat) (a : Option Addr) (c : Nat) (L : List Wy), q ≤ ni ∧ j = .int .i64 q ∧ s3 = .slice a (n + q) c ∧ Hid (Pths (fun b => w.heap.size ≤ b) V (w.heap.size + 1) a (n + q) c L) ∧ Hid (L.map Wy.l = ([] :: pk al k) ++ ((pt x1).take q).map (fun p => (k : Int) :: p)) ∧ Hid (Below w.heap.size w V) ∧ Hid (Blk V w.heap.size #[.int .i64 ax.k, .int .i64 ax.n, .string ax.s, .slice (some ⟨b1, o1, none⟩) am ac, .int .i64 ax.f, .int .i64 ax.t] 24) ∧ Hid (Pths (fun b => Wo.heap.size ≤ b ∧ b < w3.heap.size) V Wo.heap.size ai ni ci KI) ∧ Hid (∀ i, blockOf a = some i → i < Wo.heap.size ∨ w3.heap.size ≤ i) ∧ Hid (w3.heap.size ≤ V.heap.size)) (fun _ j _ => ni - (intOf j).toNat)
      case atStart => exact ⟨0, a, c, K, by omega, rfl, rfl, HP3, Lib.hid (by rw [HKr.out]; simp), HB3, HX3, HPI, HAP, Lib.hid (Nat.le_refl _)⟩
      case round =>
        obtain ⟨q, aq, cq, L, hq2, rfl, rfl, HPq, HLq, HBq, HXq, HIq, HSq, HVq⟩ := hrel
        by_cases hql : q < ni
        · obtain ⟨b2, o2, y, rfl, hb2', hy2, hyr, hyc⟩ := recs_at HIq.out.recs hql
          rw [Nat.mul_one] at hyc
          have hyn : y.n ≤ 100000 := HMX.out y (List.mem_of_getElem? hy2)
          have hyc1 : (wr.alloc (.cells #[.int .i64 k] 3)).cell? ⟨b2, o2 + q, none⟩ = some (.slice y.a y.n y.c) := by rw [(below_alloc wr _).cell (p := ⟨b2, o2 + q, none⟩) hb2']; exact hyc
          have hk64 : -9223372036854775808 ≤ (k : Int) ∧ (k : Int) ≤ 9223372036854775807 := by omega
          have HO1 : Hid (OwnI (wr.alloc (.cells #[.int .i64 k] 3)) wr.heap.size 3 (some ⟨wr.heap.size, 0, none⟩) 1 1 [(k : Int)]) := Lib.hid (OwnI.made wr wr.heap.size 3 [(k : Int)] #[.int .i64 k] rfl (Nat.le_refl _) (by simp [maxLen]) (by intro z hz; rw [List.mem_singleton] at hz; subst hz; exact hk64))
          have HY1 := Lib.hid (hyr.rd.below (below_alloc wr (.cells #[.int .i64 k] 3)))
          have hs1 : wr.heap.size ≤ (wr.alloc (.cells #[.int .i64 k] 3)).heap.size := by rw [size_alloc]; omega
          have HYq := Lib.hid hy2
          clear hy2 hyr
          go_wp2_with (at_builtin; refine wpList_append_I2 intT rfl _ _ rfl wr.heap.size rfl HO1.out rfl HY1.out (by omega) hs1 ?_)
          intro a2 c2 w4 ho4 hb4 hg4
          have hb4' : Below wr.heap.size wr w4 := (below_alloc wr _).trans hb4
          have hX : Below wr.heap.size wr (w4.alloc (.cells #[.slice a2 (1 + y.n) c2] 33)) := hb4'.trans ((below_alloc w4 _).mono hb4'.size)
          have hsX : wr.heap.size ≤ (w4.alloc (.cells #[.slice a2 (1 + y.n) c2] 33)).heap.size := hX.size
          have hxw : w.heap.size ≤ wr.heap.size := HBq.out.size
          have hs4 : wr.heap.size ≤ w4.heap.size := hb4'.size
          have HPX := Lib.hid (HPq.out.below hX)
          have hy4 : (⟨a2, 1 + y.n, c2, (k : Int) :: y.l⟩ : Wy).Rs (fun i => w.heap.size ≤ i ∧ blockOf aq ≠ some i) (w4.alloc (.cells #[.slice a2 (1 + y.n) c2] 33)) :=
            ⟨(ho4.alloc _).reads, fun i hi => by
              have h1 := OwnI.blockLt ho4 hi
              refine ⟨⟨by omega, fun e => ?_⟩, by rw [size_alloc]; omega⟩
              have := (OwnS.blockLt HPq.out.own e).2
              omega⟩
          have HY4 := Lib.hid hy4
          have HXb := Lib.hid hX
          clear ho4 hb4 hg4 hb4' hX hy4 hyc hyc1
          have hnq : n + q + 1 ≤ 1000000 := by omega
          have hbw : w.heap.size + 1 ≤ (w4.alloc (.cells #[.slice a2 (1 + y.n) c2] 33)).heap.size := by have := HXq.out.lt; omega
          go_wp2_with (at_builtin; refine wpList_append_y rfl _ _ rfl (w.heap.size + 1) rfl HPX.out rfl ⟨a2, 1 + y.n, c2, (k : Int) :: y.l⟩ HY4.out (src_new w4 [.slice a2 (1 + y.n) c2] 33) hnq hbw ?_)
          intro a5 c5 w5 hp5 hb5 hg5 hl5
          have HP5 := Lib.hid hp5; have HG5 := Lib.hid hg5; have HL5 := Lib.hid hl5
          have HB5 := Lib.hid ((HBq.out.trans (HXb.out.mono hxw)).trans (hb5.mono (Nat.le_succ _)))
          have hx5 : Blk w5 w.heap.size #[.int .i64 ax.k, .int .i64 ax.n, .string ax.s, .slice (some ⟨b1, o1, none⟩) am ac, .int .i64 ax.f, .int .i64 ax.t] 24 := (HXq.out.below HXb.out).of (hg5.block w.heap.size (HXq.out.below HXb.out).lt (fun e => by have := (OwnS.blockLt HPq.out.own e.symm).1; omega))
          have HX5 := Lib.hid hx5
          have HI5 : Hid (Pths (fun b => Wo.heap.size ≤ b ∧ b < w3.heap.size) w5 Wo.heap.size (some ⟨b2, o2, none⟩) ni ci KI) := Lib.hid ((HIq.out.below HXb.out).agree (fun i hi => hg5.block i (by have := (HINN.out i hi).2; have := HVq.out; omega) (fun e => by have h1 := HINN.out i hi; have h2 := HSq.out i e.symm; omega)) ⟨hg5.size, fun b hb hl => hg5.block b hl (fun e => by have h2 := HSq.out b e.symm; omega)⟩)
          have HS5 : Hid (∀ i, blockOf a5 = some i → i < Wo.heap.size ∨ w3.heap.size ≤ i) := Lib.hid (fun i hi => by
            rcases hl5 with h | h
            · exact HSq.out i (h.symm.trans hi)
            · rw [h] at hi; cases hi; right; have := HVq.out; omega)
          have HV5 : Hid (w3.heap.size ≤ w5.heap.size) := Lib.hid (by have := hg5.size; have := HVq.out; omega)
          have HE5 : Hid ((L ++ [(⟨a2, 1 + y.n, c2, (k : Int) :: y.l⟩ : Wy)]).map Wy.l = ([] :: pk al k) ++ ((pt x1).take (q + 1)).map (fun p => (k : Int) :: p)) := Lib.hid (by
            have e : (pt x1)[q]? = some y.l := by rw [← HM3.out, List.getElem?_map, HYq.out]; rfl
            rw [List.take_add_one, e, List.map_append, HLq.out, List.map_append, List.append_assoc]
            rfl)
          clear hp5 hb5 hg5 hl5 hx5
          go_wp2
          go_roundw
          case rel => exact ⟨q + 1, a5, c5, _, by omega, by go_num, rfl, HP5, HE5, HB5, HX5, HI5, HS5, HV5⟩
          case measure => simp [intOf]; omega
        · have hqn : q = ni := by omega
          subst hqn
          have HE : Hid (L.map Wy.l = [] :: pk al (k + 1)) := Lib.hid (by
            rw [HLq.out, List.take_of_length_le (by rw [← HNI.out]; exact Nat.le_refl _), pk_succ HX1.out]
            rfl)
          go_wp2
          go_roundw
          case rel => exact ⟨k + 1, aq, n + q, cq, L, by omega, by go_num, rfl, HPq, HE, HBq, HXq⟩
          case measure => simp [intOf]; omega
    · obtain rfl : k = am := by omega
      go_wp2
      go_ret
      refine ⟨a, n, c, K, rfl, ⟨HPr.out.own.mono (Nat.le_succ _), HPr.out.rs⟩, ?_, HBr.out⟩
      rw [HKr.out]
      exact (pt_mk ax al HLEN.out).symm
end Go.Proofs.Ytbpjaidfpacbfaa.te
