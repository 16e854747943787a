/-
  Layer 11: contracts of the document's Sorted (of edits in order) and Apply.
-/
import Derived.Test.YtcncfljpbbpaoaaRegApply
import Derived.IntWalk
import Derived.Laws.Concat
namespace Go.Proofs.Ytcncfljpbbpaoaa.rg
open Go.ChangeShapes Go.WideShapes Go.ChangeAt Go.RowKit
open bs
set_option linter.unusedVariables false

/-- An edit that can be read. -/
structure EdAt (w : World) (b o : Nat) (r : Ed) : Prop where
  c0 : w.cell? ⟨b, o, none⟩ = some (.int .i64 r.f)
  c1 : w.cell? ⟨b, o + 1, none⟩ = some (.int .i64 r.t)
  c2 : w.cell? ⟨b, o + 2, none⟩ = some (.string r.s)
theorem edStays : Stays EdAt := fun w w' b o x h hb hbel =>
  ⟨by rw [hbel.cell (p := ⟨b, o, none⟩) hb]; exact h.c0, by rw [hbel.cell (p := ⟨b, o + 1, none⟩) hb]; exact h.c1, by rw [hbel.cell (p := ⟨b, o + 2, none⟩) hb]; exact h.c2⟩
theorem ed_recs {w : World} {base : Nat} {e : TypeId} {a : Option Addr} {n c : Nat} {l : List Ed} (h : OwnS 3 ecells w base e a n c l) : Recs 3 EdAt w a n c l :=
  h.recs (by decide) (fun _ => rfl) EdAt (fun b o x _ hx => ⟨hx 0 _ rfl, hx 1 _ rfl, hx 2 _ rfl⟩)
theorem ed_new (w : World) : OwnS 3 ecells (w.alloc (.cells #[] 41)) w.heap.size 41 (some ⟨w.heap.size, 0, none⟩) 0 0 ([] : List Ed) :=
  ⟨⟨rfl, .inr ⟨w.heap.size, 0, #[], rfl, Nat.le_refl _, heap_alloc_new w _, Nat.le_refl _, Nat.zero_le _, rfl, rfl⟩⟩, rfl⟩

section
variable {α : Type} {size : Nat} {cells : α → List Value}
/-- An append of nothing. -/
theorem run_append_s0 {P : Program} {t e : TypeId} {z : Value} {bytes : Nat} (T : RecT P t e z size bytes) (hpos : 0 < size) (ty : TypeId) (w : World) (base : Nat) {a : Option Addr} {n c : Nat} {l : List α} (h : OwnS size cells w base e a n c l) (b' : Option Addr) (c' : Nat) (hc' : b' = none → c' = 0)
    (hm : n ≤ maxLen) (hn : n * bytes ≤ 140737488355328) (hbase : base ≤ w.heap.size) :
    ∃ a2 c2 w', (Builtin.append_ #[t, t] ty #[.slice a n c, .slice b' 0 c']).run P w = .ok (.slice a2 n c2) w' ∧ OwnS size cells w' base e a2 n c2 l ∧ Below base w w' := by
  obtain ⟨i0, hi, hz0, hz1, hz2⟩ := info_parts T.info
  rcases Option.eq_none_or_eq_some b' with rfl | ⟨ad, rfl⟩
  · have := hc' rfl
    subst this
    have hr := run_append_owned_none (P := P) (w := w) base t ty e i0 size T.und hi (.slice a n c) n (l.flatMap cells) h.own
    exact ⟨a, c, w, hr, h, Below.refl _ _⟩
  · obtain ⟨v', w', hr, ho, hg, hnil⟩ := run_append_own (P := P) w base t ty e i0 z size bytes T.und hi hz0 hz1 hz2 T.zero hpos (.slice a n c) n (l.flatMap cells) h.own ad 0 c' [] (by simp) (by simp) (by simp) (by simpa using hm) (by simpa using hn) hbase
    rw [List.append_nil, Nat.add_zero] at ho
    have hbel : Below base w w' := (Below.refl base w).grown hg hbase (fun k hk => (h.own.lt k hk).1)
    rcases ho.2 with ⟨rfl, h0⟩ | ⟨g, cap, cur, rfl, hgb, hh, r⟩
    · exact ⟨none, 0, w', by rw [hr, h0], ⟨by rw [h0] at ho ⊢; exact ho, h.num⟩, hbel⟩
    · exact ⟨some ⟨g, 0, none⟩, cap, w', hr, ⟨ho, h.num⟩, hbel⟩
variable {P : Program} {w : World} {ops : Array Oper} {rest : List Oper} {o : Oper} {a : Act} {Q : Exit → Act → World → Prop}
theorem wpList_append_s0 {t e : TypeId} {z : Value} {bytes : Nat} (T : RecT P t e z size bytes) (hpos : 0 < size) (hw : Region.wanted o (yielded ops a.tmps) = true) (s y : Operand) (ho : o.op = .call { callee := .builtin .append, args := #[s, y], argTypes := #[t, t] })
    (base : Nat) {b : Option Addr} {n c : Nat} {l : List α} (hs : a.eval s = .slice b n c) (h : OwnS size cells w base e b n c l) {b' : Option Addr} {c' : Nat} (hy : a.eval y = .slice b' 0 c') (hc' : b' = none → c' = 0)
    (hn : n * bytes ≤ 140737488355328) (hm : n ≤ maxLen) (hbase : base ≤ w.heap.size)
    (k : ∀ a2 c2 w', OwnS size cells w' base e a2 n c2 l → Below base w w' → wpList P ops Q rest (a.put o.dst (.slice a2 n c2)) w') : wpList P ops Q (o :: rest) a w :=
  BigFrame.wpList_want hw fun K hK => by
    obtain ⟨a2, c2, w', hr, h2, h3⟩ := run_append_s0 T hpos o.type w base h b' c' hc' hm hn hbase
    unfold Oper.wp execOp
    simp only [ho, resolve, invoke, builtin, Sem.run_bind, Sem.run_pure, Result.andThen_ok, List.map_toArray, List.map_cons, List.map_nil, hs, hy, hr]
    exact hK _ _ (k a2 c2 w' h2 h3)
theorem step_append_s0 {K : Act → World → Prop} {E : Prop} {t e : TypeId} {z : Value} {bytes : Nat} (T : RecT P t e z size bytes) (hpos : 0 < size) (hgd : o.guard = none) (s y : Operand) (ho : o.op = .call { callee := .builtin .append, args := #[s, y], argTypes := #[t, t] })
    (base : Nat) {b : Option Addr} {n c : Nat} {l : List α} (hs : a.eval s = .slice b n c) (h : OwnS size cells w base e b n c l) {b' : Option Addr} {c' : Nat} (hy : a.eval y = .slice b' 0 c') (hc' : b' = none → c' = 0)
    (hn : n * bytes ≤ 140737488355328) (hm : n ≤ maxLen) (hbase : base ≤ w.heap.size)
    (k : ∀ a2 c2 w', OwnS size cells w' base e a2 n c2 l → Below base w w' → K (a.put o.dst (.slice a2 n c2)) w') :
    if Region.wanted o (yielded ops a.tmps) = true then Oper.wp P o a w K Q else E := by
  have hw : Region.wanted o (yielded ops a.tmps) = true := by simp [Region.wanted, hgd]
  rw [if_pos hw]
  obtain ⟨a2, c2, w', hr, h2, h3⟩ := run_append_s0 T hpos o.type w base h b' c' hc' hm hn hbase
  unfold Oper.wp execOp
  simp only [ho, resolve, invoke, builtin, Sem.run_bind, Sem.run_pure, Result.andThen_ok, List.map_toArray, List.map_cons, List.map_nil, hs, hy, hr]
  exact k a2 c2 w' h2 h3
end

theorem src_newd (W : World) (cs : List Value) (e : TypeId) : ∀ j u, cs[j]? = some u → (W.alloc (.cells cs.toArray e)).drew.cell? ((⟨W.heap.size, 0, none⟩ : Addr).add j) = some u := src_new W cs e
def tailE (a : Option Addr) (c i : Nat) : Option Addr := if c = i then a else a.map fun x => x.add (i * 3)
theorem tailE_none {a : Option Addr} {c i : Nat} (hnil : a = none → c = 0) (h : tailE a c i = none) : c - i = 0 := by
  unfold tailE at h
  split at h
  · omega
  · rcases a with _ | x
    · have := hnil rfl; omega
    · simp at h
theorem slice_tail_e (a : Option Addr) (n c i : Nat) (j : Int) (hj : j = i) (h : i ≤ n) (hc : n ≤ c) (hm : c ≤ 9223372036854775807) (hnil : a = none → c = 0) (W : World) :
    (Instr.sliceAt 22 (.slice a n c) (some (.int .i64 j)) none none).run Try.prog W = .ok (.slice (tailE a c i) (n - i) (c - i)) W := by
  subst hj
  unfold tailE
  have e1 : ¬ (i : Int) < 0 := by omega
  have e2 : ¬ (n : Int) < i := by omega
  have e3 : (i : Int).toNat = i := by omega
  by_cases hci : c = i
  · rcases a with _ | x
    · simp [Instr.sliceAt, Instr.slice, Instr.sliceBounds, Instr.sliceBound, asIntOf, Try.underlying22, go_sem, hci, h]
    · simp [Instr.sliceAt, Instr.slice, Instr.sliceBounds, Instr.sliceBound, asIntOf, Try.underlying22, go_sem, hci, h]
  · rcases a with _ | x
    · have := hnil rfl
      omega
    · simp [Instr.sliceAt, Instr.slice, Instr.sliceBounds, Instr.sliceBound, asIntOf, Try.underlying22, go_sem, hci, h]

def EdPost (w : World) (L : List Ed) (e : Ending) (w' : World) : Prop :=
  ∃ (a : Option Addr) (n c : Nat), e = .returned (.slice a n c) ∧ OwnS 3 ecells w' w.heap.size 41 a n c L ∧ Below w.heap.size w w'

set_option maxRecDepth 100000 in
set_option maxHeartbeats 2000000 in
theorem sorted_any (a : Option Addr) (n c : Nat) (l : List Ed) (w : World) (h : Recs 3 EdAt w a n c l) (hn : n ≤ 1000000) (hord : ∀ (k : Nat) (r s : Ed), l[k]? = some r → l[k + 1]? = some s → r.f ≤ s.f) :
    Calls Try.prog 51 #[.slice a n c] w (EdPost w l) := by
  have hm := h.most
  have hk := h.cap
  have HX := Lib.hid h; have HO := Lib.hid hord; clear h hord
  go_enter Try.func51, Try.ntmps51
  go_wp2
  go_loopw [3, 4] (fun out i wr => ∃ (k : Nat) (a2 : Option Addr) (c2 : Nat), k ≤ n ∧ i = .int .i64 k ∧ out = .slice a2 k c2 ∧ Hid (Below w.heap.size w wr) ∧ Hid (OwnS 3 ecells wr w.heap.size 41 a2 k c2 (l.take k))) (fun _ i _ => n - (intOf i).toNat)
  case atStart => exact ⟨0, _, 0, by omega, rfl, rfl, (Below.refl _ _).alloc (Nat.le_refl _) _, ed_new w⟩
  case round =>
    obtain ⟨k, a2, c2, hkn, rfl, rfl, hb, ho⟩ := hrel
    have hbs := hb.out.size
    have hoc := (ed_recs ho.out).cap; have hom := (ed_recs ho.out).most
    by_cases hlt : k < n
    · obtain ⟨x, hx⟩ : ∃ x, l[k]? = some x := ⟨l[k]'(by have := HX.out.len; omega), List.getElem?_eq_getElem _⟩
      have HRw := HX.out
      rcases HRw.at' with h0 | ⟨b, off, rfl, hbl, hcell⟩
      · omega
      have hex := hcell k x hx
      have Kx : Hid (∀ V, Below w.heap.size w V → V.cell? ⟨b, off + k * 3, none⟩ = some (.int .i64 x.f) ∧ V.cell? ⟨b, off + k * 3 + 1, none⟩ = some (.int .i64 x.t) ∧ V.cell? ⟨b, off + k * 3 + 2, none⟩ = some (.string x.s)) := fun V hV => by
        have := edStays _ _ _ _ _ hex hbl hV
        exact ⟨this.c0, this.c1, this.c2⟩
      have htk : l.take (k + 1) = l.take k ++ [x] := by rw [List.take_add_one, hx]; rfl
      have HTK := Lib.hid htk
      have hout := ed_recs ho.out
      have hsl := fun W => slice_tail_e a2 k c2 k (k : Int) rfl (Nat.le_refl _) hoc hom hout.nil W
      have HNil := Lib.hid hout.nil
      obtain ⟨c0, c1, c2'⟩ := Kx.out _ hb.out
      have hcmp : k = 0 ∨ ∃ (j g off2 : Nat) (y : Int), k = j + 1 ∧ a2 = some ⟨g, off2, none⟩ ∧ wr.cell? ⟨g, off2 + j * 3, none⟩ = some (.int .i64 y) ∧ y ≤ x.f := by
        rcases Nat.eq_zero_or_pos k with h0 | hpos
        · exact .inl h0
        · obtain ⟨j, rfl⟩ : ∃ j, k = j + 1 := ⟨k - 1, by omega⟩
          rcases hout.at' with h0 | ⟨g, off2, ha2, _, hc2⟩
          · omega
          · obtain ⟨y, hy⟩ : ∃ y, l[j]? = some y := ⟨l[j]'(by have := HX.out.len; omega), List.getElem?_eq_getElem _⟩
            exact .inr ⟨j, g, off2, y.f, rfl, ha2, (hc2 j y (by rw [List.getElem?_take_of_lt (by omega)]; exact hy)).c0, HO.out j y x hy hx⟩
      have HC := Lib.hid hcmp
      clear hcell hex hx htk hout hcmp HRw
      obtain ⟨xf, xt, xs⟩ := x
      dsimp only at c0 c1 c2' HC
      go_wp2_with fail
      go_loopw [5] (fun at' wr' => at' = .int .i64 k ∧ ∃ d, wr' = wr.drewN d) (fun _ _ => 0)
      case atStart => exact ⟨rfl, 0, rfl⟩
      case round =>
        obtain ⟨rfl, d, rfl⟩ := hrel
        rcases HC.out with hk0 | ⟨j, g, off2, y, hkj, ha2, hy, hle⟩
        · have d0 : ¬ 0 < k := by omega
          have HK0 := Lib.hid hk0
          clear hk0 HC
          go_wp2_with fail
          go_quiet (fail)
          go_wp2_with (at_builtin; refine wpList_append_s0 edT (by decide) rfl (.tmp 34) (.tmp 37) rfl _ rfl (ed_new _) rfl (tailE_none HNil.out) (by omega) (Nat.zero_le _) (by simp) ?_)
          intro a5 c5 w5 ho5 hb5
          have HB5 : Hid (Below wr.heap.size wr w5) := ((below_drewN (Below.refl wr.heap.size wr) _).alloc (Nat.le_refl _) _).trans hb5
          have HN5 := Lib.hid (ed_recs ho5).nil
          have HO5 := Lib.hid (ho.out.below HB5.out)
          have HBw := Lib.hid (hb.out.trans (HB5.out.mono hbs))
          have hb5s := HBw.out.size
          clear ho5 hb5
          have h1c : ∀ v ∈ ecells ⟨xf, xt, xs⟩, v.oneCell' = true := by
            intro v hv; simp only [ecells, List.mem_cons, List.not_mem_nil, or_false] at hv; rcases hv with rfl | rfl | rfl <;> rfl
          have hm1 : k + 1 ≤ maxLen := by unfold maxLen; omega
          have hn1 : (k + 1) * 32 ≤ 140737488355328 := by omega
          go_wp2_with fail
          go_region_held_law (fun V => V.cell? ⟨b, off + k * 3, none⟩ = some (.int .i64 xf) ∧ V.cell? ⟨b, off + k * 3 + 1, none⟩ = some (.int .i64 xt) ∧ V.cell? ⟨b, off + k * 3 + 2, none⟩ = some (.string xs))
            (first | exact Kx.out _ (Below.drew HBw.out) | exact Kx.out _ (Below.alloc (Below.drew HBw.out) hb5s _) | exact Kx.out _ (Below.drew (Below.alloc HBw.out hb5s _)) | exact Kx.out _ HB7.out | exact Kx.out _ HB8.out)
            (((first
              | ((first
                  | refine step_append_s edT (by decide) (by rfl) (.tmp 41) (.tmp 46) (by rfl) w.heap.size (by rfl) ((HO5.out.below (Below.drew (Below.refl _ _))).below ((Below.refl _ _).alloc (Nat.le_refl _) _)) (by rfl) ⟨xf, xt, xs⟩ rfl h1c (src_new _ (ecells ⟨xf, xt, xs⟩) 41) hn1 hm1 (Below.alloc (Below.drew HBw.out) hb5s _).size ?_
                  | refine step_append_s edT (by decide) (by rfl) (.tmp 41) (.tmp 46) (by rfl) w.heap.size (by rfl) ((HO5.out.below ((Below.refl _ _).alloc (Nat.le_refl _) _)).below (Below.drew (Below.refl _ _))) (by rfl) ⟨xf, xt, xs⟩ rfl h1c (src_newd _ (ecells ⟨xf, xt, xs⟩) 41) hn1 hm1 (Below.drew (Below.alloc HBw.out hb5s _)).size ?_); intro a7 c7 w7 ho7 hb7 hg7; (have HB7 : Hid (Below w.heap.size w w7) := (by first | exact (Below.alloc (Below.drew HBw.out) hb5s _).trans hb7 | exact (Below.drew (Below.alloc HBw.out hb5s _)).trans hb7)); (have HO7 := Lib.hid ho7); clear ho7 hb7 hg7)
              | (refine step_append_s0 edT (by decide) (by rfl) (.tmp 47) (.tmp 48) (by rfl) w.heap.size (by rfl) HO7.out (by rfl) HN5.out hn1 hm1 HB7.out.size ?_; intro a8 c8 w8 ho8 hb8; (have HB8 : Hid (Below w.heap.size w w8) := HB7.out.trans hb8); (have HO8 := Lib.hid ho8); clear ho8 hb8))))
          go_wp2
          go_roundw
          case rel => exact ⟨k + 1, a8, c8, by omega, by go_num, rfl, HB8.out, by rw [HTK.out]; exact HO8.out⟩
          case measure => simp [intOf]; omega
        · have d0 : 0 < k := by omega
          have z1 : IntKind.i64.wrap ((k : Int) - 1) = (j : Int) := by rw [IntWalk.i64_in _ (by omega)]; omega
          have d1 : decide (xf < y) = false := decide_eq_false (by omega)
          have d2 : (j : Int) < (k : Int) := by omega
          have d3 : j < k := by omega
          subst ha2
          have HKJ := Lib.hid hkj
          clear hkj hle HC
          go_wp2_with fail
          go_quiet (fail)
          go_wp2_with (at_builtin; refine wpList_append_s0 edT (by decide) rfl (.tmp 34) (.tmp 37) rfl _ rfl (ed_new _) rfl (tailE_none HNil.out) (by omega) (Nat.zero_le _) (by simp) ?_)
          intro a5 c5 w5 ho5 hb5
          have HB5 : Hid (Below wr.heap.size wr w5) := ((below_drewN (Below.refl wr.heap.size wr) _).alloc (Nat.le_refl _) _).trans hb5
          have HN5 := Lib.hid (ed_recs ho5).nil
          have HO5 := Lib.hid (ho.out.below HB5.out)
          have HBw := Lib.hid (hb.out.trans (HB5.out.mono hbs))
          have hb5s := HBw.out.size
          clear ho5 hb5
          have h1c : ∀ v ∈ ecells ⟨xf, xt, xs⟩, v.oneCell' = true := by
            intro v hv; simp only [ecells, List.mem_cons, List.not_mem_nil, or_false] at hv; rcases hv with rfl | rfl | rfl <;> rfl
          have hm1 : k + 1 ≤ maxLen := by unfold maxLen; omega
          have hn1 : (k + 1) * 32 ≤ 140737488355328 := by omega
          go_wp2_with fail
          go_region_held_law (fun V => V.cell? ⟨b, off + k * 3, none⟩ = some (.int .i64 xf) ∧ V.cell? ⟨b, off + k * 3 + 1, none⟩ = some (.int .i64 xt) ∧ V.cell? ⟨b, off + k * 3 + 2, none⟩ = some (.string xs))
            (first | exact Kx.out _ (Below.drew HBw.out) | exact Kx.out _ (Below.alloc (Below.drew HBw.out) hb5s _) | exact Kx.out _ (Below.drew (Below.alloc HBw.out hb5s _)) | exact Kx.out _ HB7.out | exact Kx.out _ HB8.out)
            (((first
              | ((first
                  | refine step_append_s edT (by decide) (by rfl) (.tmp 41) (.tmp 46) (by rfl) w.heap.size (by rfl) ((HO5.out.below (Below.drew (Below.refl _ _))).below ((Below.refl _ _).alloc (Nat.le_refl _) _)) (by rfl) ⟨xf, xt, xs⟩ rfl h1c (src_new _ (ecells ⟨xf, xt, xs⟩) 41) hn1 hm1 (Below.alloc (Below.drew HBw.out) hb5s _).size ?_
                  | refine step_append_s edT (by decide) (by rfl) (.tmp 41) (.tmp 46) (by rfl) w.heap.size (by rfl) ((HO5.out.below ((Below.refl _ _).alloc (Nat.le_refl _) _)).below (Below.drew (Below.refl _ _))) (by rfl) ⟨xf, xt, xs⟩ rfl h1c (src_newd _ (ecells ⟨xf, xt, xs⟩) 41) hn1 hm1 (Below.drew (Below.alloc HBw.out hb5s _)).size ?_); intro a7 c7 w7 ho7 hb7 hg7; (have HB7 : Hid (Below w.heap.size w w7) := (by first | exact (Below.alloc (Below.drew HBw.out) hb5s _).trans hb7 | exact (Below.drew (Below.alloc HBw.out hb5s _)).trans hb7)); (have HO7 := Lib.hid ho7); clear ho7 hb7 hg7)
              | (refine step_append_s0 edT (by decide) (by rfl) (.tmp 47) (.tmp 48) (by rfl) w.heap.size (by rfl) HO7.out (by rfl) HN5.out hn1 hm1 HB7.out.size ?_; intro a8 c8 w8 ho8 hb8; (have HB8 : Hid (Below w.heap.size w w8) := HB7.out.trans hb8); (have HO8 := Lib.hid ho8); clear ho8 hb8))))
          go_wp2
          go_roundw
          case rel => exact ⟨k + 1, a8, c8, by omega, by go_num, rfl, HB8.out, by rw [HTK.out]; exact HO8.out⟩
          case measure => simp [intOf]; omega
    · obtain rfl : k = n := by omega
      have hl : l.take k = l := List.take_of_length_le (by have := HX.out.len; omega)
      rw [hl] at ho
      go_wp2
      go_ret
      exact ⟨a2, k, c2, rfl, ho.out, hb.out⟩

set_option maxRecDepth 100000 in
set_option maxHeartbeats 2000000 in
theorem apply_any (p q : ByteArray) (l : List Reg) (a : Option Addr) (n c : Nat) (w : World) (h : Recs 3 EdAt w a n c (l.map (edOf q))) (S : Steps p q l) (hn : n ≤ 1000000) (hp : p.size ≤ 140737488355328) (hq : q.size ≤ 140737488355328) :
    Calls Try.prog 18 #[.string p, .slice a n c] w fun e w' => e = .returned (.string q) ∧ Below w.heap.size w w' := by
  have hln : l.length = n := by have := h.len; simpa using this
  have HX := Lib.hid h; have HS := Lib.hid S; clear h S
  have hord : ∀ (k : Nat) (r s : Ed), (l.map (edOf q))[k]? = some r → (l.map (edOf q))[k + 1]? = some s → r.f ≤ s.f := fun k r s hr hs => by
    rw [List.getElem?_map] at hr hs
    obtain ⟨r', hr', rfl⟩ := Option.map_eq_some_iff.1 hr
    obtain ⟨s', hs', rfl⟩ := Option.map_eq_some_iff.1 hs
    have h1 := HS.out.order k r' s' hr' hs'
    obtain ⟨_, h2, _⟩ := HS.out.each k r' hr'
    show r'.fp ≤ s'.fp
    omega
  have hend : endP l l.length ≤ p.size := by
    rcases Nat.eq_zero_or_pos l.length with h0 | hpos
    · rw [h0, endP_zero]; omega
    · obtain ⟨r, hr⟩ : ∃ r, l[l.length - 1]? = some r := ⟨_, List.getElem?_eq_getElem (by omega)⟩
      have := endP_succ hr
      rw [show l.length - 1 + 1 = l.length by omega] at this
      obtain ⟨_, _, h3, _⟩ := HS.out.each _ r hr
      omega
  have hstart := stage_last HS.out hend
  rw [hln] at hstart
  have HStart := Lib.hid hstart; have HOrd := Lib.hid hord; have HLn := Lib.hid hln
  clear hstart hord hend hln
  go_enter Try.func18, Try.ntmps18
  go_wp2_with fail
  refine (sorted_any a n c (l.map (edOf q)) _ HX.out hn HOrd.out).mono ?_
  rintro e w1 ⟨a1, n1, c1, rfl, ho1, hb1⟩
  obtain rfl : n1 = n := by have := ho1.num; have := HLn.out; simp at *; omega
  have HR1 := Lib.hid (ed_recs ho1); have HB1 := Lib.hid hb1
  have hc1 := HR1.out.cap; have hm1 := HR1.out.most
  clear ho1 hb1
  go_wp2
  go_loopw [0, 6] (fun tx i wr => ∃ k d : Nat, k ≤ n1 ∧ i = .int .i64 ((k : Int) - 1) ∧ tx = .string (stage p q l k) ∧ wr = w1.drewN d) (fun _ i _ => (intOf i + 1).toNat)
  case atStart => exact ⟨n1, 0, by omega, rfl, by rw [HStart.out], rfl⟩
  case round =>
    obtain ⟨k, d, hk, rfl, rfl, rfl⟩ := hrel
    rcases Nat.eq_zero_or_pos k with h0 | hpos
    · subst h0
      have hz := stage_zero p q l
      have HZ := Lib.hid hz; clear hz
      go_wp2
      go_ret
      exact ⟨by rw [HZ.out]; rfl, below_drewN HB1.out _⟩
    · obtain ⟨j, rfl⟩ : ∃ j, k = j + 1 := ⟨k - 1, by omega⟩
      rw [show (((j + 1 : Nat) : Int) - 1) = (j : Int) by omega]
      obtain ⟨r, hr⟩ : ∃ r, l[j]? = some r := ⟨l[j]'(by have := HLn.out; omega), List.getElem?_eq_getElem _⟩
      have HR := HR1.out
      rcases HR.at' with h0 | ⟨g, off, rfl, hbl, hcell⟩
      · omega
      obtain ⟨c0, c1', c2⟩ := hcell j (edOf q r) (by rw [List.getElem?_map, hr]; rfl)
      obtain ⟨h1, h2, h3⟩ := stage_step HS.out hr
      obtain ⟨s1, s2, s3, s4, s5, s6, _⟩ := HS.out.each j r hr
      have hsz := stage_size (p := p) (q := q) (l := l) (j + 1)
      clear HR hcell hr
      obtain ⟨rfp, rtp, rfq, rtq⟩ := r
      dsimp only [edOf] at c0 c1' c2 h1 h2 h3 s1 s2 s3 s4 s5 s6
      obtain ⟨f, rfl⟩ := Int.eq_ofNat_of_zero_le s1
      obtain ⟨t, rfl⟩ := Int.eq_ofNat_of_zero_le (show 0 ≤ rtp by omega)
      obtain ⟨g', rfl⟩ := Int.eq_ofNat_of_zero_le s4
      obtain ⟨u, rfl⟩ := Int.eq_ofNat_of_zero_le (show 0 ≤ rtq by omega)
      simp only [Int.toNat_natCast] at h1 h2 h3 c2
      have H3 := Lib.hid h3
      clear h3
      generalize stage p q l (j + 1) = T at h2 hsz H3 ⊢
      have e1 : f ≤ T.size := by omega
      have hs1 : (T.extract 0 f).size ≤ T.size := by rw [ByteArray.size_extract]; omega
      have hs2 : (q.extract g' u).size ≤ q.size := by rw [ByteArray.size_extract]; omega
      have hs3 : (T.extract t T.size).size ≤ T.size := by rw [ByteArray.size_extract]; omega
      have hadd1 : ∀ W : World, (Op.stringOp .add (T.extract 0 f) (q.extract g' u)).run Try.prog W = .ok (.string (T.extract 0 f ++ q.extract g' u)) W := fun W => run_string_add_sum W _ _ (by omega)
      have hadd2 : ∀ W : World, (Op.stringOp .add (T.extract 0 f ++ q.extract g' u) (T.extract t T.size)).run Try.prog W = .ok (.string ((T.extract 0 f ++ q.extract g' u) ++ T.extract t T.size)) W := fun W => run_string_add_sum W _ _ (by rw [ByteArray.size_append]; omega)
      clear hs1 hs2 hs3 hsz
      have z1 : (j : Int) < (n1 : Int) := by omega
      go_wp2_with fail
      go_quiet (fail)
      go_wp2
      go_roundw
      case rel => exact ⟨j, _, by omega, by go_num, by rw [H3.out], rfl⟩
      case measure => simp [intOf]
end Go.Proofs.Ytcncfljpbbpaoaa.rg
