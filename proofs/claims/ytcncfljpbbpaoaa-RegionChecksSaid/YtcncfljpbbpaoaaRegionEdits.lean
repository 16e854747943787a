/-
  Layer 38: the edits of regions.
-/
import Derived.Test.YtcncfljpbbpaoaaRegionAwake
import Derived.Test.YtcncfljpbbpaoaaOwnRecs
import Derived.Deep.RegionHeldLaw
import Derived.Deep.AppendLies
namespace Go.Proofs.Ytcncfljpbbpaoaa.rg
open Go.ChangeShapes Go.WideShapes Go.ChangeAt Go.RowKit
open bs
set_option linter.unusedVariables false

structure Ed where
  f : Int
  t : Int
  s : ByteArray
def ecells (x : Ed) : List Value := [.int .i64 x.f, .int .i64 x.t, .string x.s]
def edOf (q : ByteArray) (r : Reg) : Ed := ⟨r.fp, r.tp, q.extract r.fq.toNat r.tq.toNat⟩
def edsOk (q : ByteArray) (l : List Reg) : Bool := l.all fun r => withinB r.fq r.tq q.size

theorem edsOk_no (q : ByteArray) (l : List Reg) (k : Nat) (r : Reg) (h : l[k]? = some r) (hr : withinB r.fq r.tq q.size = false) : edsOk q l = false := by
  cases he : edsOk q l with
  | false => rfl
  | true =>
    have := List.all_eq_true.1 he r (List.mem_of_getElem? h)
    rw [hr] at this
    cases this
theorem edsOk_take (q : ByteArray) (l : List Reg) (k : Nat) (r : Reg) (h : l[k]? = some r) (hr : withinB r.fq r.tq q.size = true) (ht : edsOk q (l.take k) = true) : edsOk q (l.take (k + 1)) = true := by
  unfold edsOk at *
  rw [List.take_add_one, h, List.all_append, ht]
  simp [hr]
theorem map_take (q : ByteArray) (l : List Reg) (k : Nat) (r : Reg) (h : l[k]? = some r) : (l.take (k + 1)).map (edOf q) = (l.take k).map (edOf q) ++ [edOf q r] := by
  rw [List.take_add_one, h, List.map_append]
  rfl
theorem edT : RecT Try.prog 22 41 (.agg #[.int .i64 0, .int .i64 0, .string ByteArray.empty]) 3 32 := ⟨Try.underlying22, by kernel_rfl, by kernel_rfl⟩

def EPost (q : ByteArray) (l : List Reg) (w : World) (e : Ending) (w' : World) : Prop :=
  Below w.heap.size w w' ∧ ((edsOk q l = false ∧ e = .returned (.tuple #[.slice none 0 0, .int .i64 13])) ∨ (edsOk q l = true ∧ ∃ a n c, e = .returned (.tuple #[.slice a n c, .int .i64 0]) ∧ OwnS 3 ecells w' w.heap.size 41 a n c (l.map (edOf q))))

set_option maxRecDepth 100000 in
set_option maxHeartbeats 1000000 in
theorem edits_any (q : ByteArray) (a : Option Addr) (n c : Nat) (l : List Reg) (w : World) (h : Recs 4 RegAt w a n c l) (hq : q.size ≤ 9223372036854775807) (hn : n ≤ 1000000) :
    Calls Try.prog 26 #[.string q, .slice a n c] w (EPost q l w) := by
  have hm := h.most
  have hk := h.cap
  have HX := Lib.hid h; clear h
  go_enter Try.func26, Try.ntmps26
  go_wp2
  go_loopw [6, 11] (fun out i wr => ∃ (k : Nat) (a2 : Option Addr) (c2 : Nat), k ≤ n ∧ i = .int .i64 k ∧ out = .slice a2 k c2 ∧ Below w.heap.size w wr ∧ Hid (OwnS 3 ecells wr w.heap.size 41 a2 k c2 ((l.take k).map (edOf q))) ∧ Hid (edsOk q (l.take k) = true)) (fun _ i _ => n - (intOf i).toNat)
  case atStart => exact ⟨0, none, 0, by omega, rfl, rfl, Below.refl _ _, OwnS.nil _ _ _, rfl⟩
  case round =>
    obtain ⟨k, a2, c2, hkn, rfl, rfl, hb, ho, hok⟩ := hrel
    by_cases hlt : k < n
    · have HR := HX.out.below regStays hb
      obtain ⟨r, hr⟩ : ∃ r, l[k]? = some r := ⟨l[k]'(by have := HR.len; omega), List.getElem?_eq_getElem _⟩
      rcases HR.at' with h0 | ⟨b, off, rfl, hbl, hcell⟩
      · omega
      obtain ⟨c0, c1, c2', c3, i0, i1, i2, i3⟩ := hcell k r hr
      clear HR hcell
      cases hin : withinB r.fq r.tq q.size with
      | false =>
        have HV := Lib.hid (edsOk_no q l k r hr hin)
        go_wp2_with fail
        refine (within_any r.fq r.tq q _ hq).mono ?_
        rintro e w' ⟨rfl, rfl⟩
        rw [hin]
        clear hin
        go_wp2
        go_ret2
        exact ⟨hb.alloc hb.size _, .inl ⟨HV.out, rfl⟩⟩
      | true =>
        have HS := Lib.hid (edsOk_take q l k r hr hin hok.out)
        have HM := Lib.hid (map_take q l k r hr)
        have hb2 := hb.size
        go_wp2_with fail
        refine (within_any r.fq r.tq q _ hq).mono ?_
        rintro e w' ⟨rfl, rfl⟩
        rw [hin]
        have hin2 := of_decide_eq_true hin
        clear hin
        have HO := Lib.hid (ho.out.below ((Below.refl _ _).alloc (Nat.le_refl _) (.cells #[Value.int .i64 r.fp, Value.int .i64 r.tp, Value.int .i64 r.fq, Value.int .i64 r.tq] 39)))
        have HB := Lib.hid (hb.alloc hb.size (.cells #[Value.int .i64 r.fp, Value.int .i64 r.tp, Value.int .i64 r.fq, Value.int .i64 r.tq] 39))
        have hne : some wr.heap.size ≠ Value.ownBlock (.slice a2 k c2) := by
          rcases ho.out.cases with ⟨rfl, -, -⟩ | ⟨gg, rfl, -, hlt', -, -⟩
          · simp [Value.ownBlock]
          · simp [Value.ownBlock]; omega
        have hlt1 : wr.heap.size < (wr.alloc (.cells #[Value.int .i64 r.fp, Value.int .i64 r.tp, Value.int .i64 r.fq, Value.int .i64 r.tq] 39)).heap.size := by simp
        clear ho
        obtain ⟨rfp, rtp, rfq, rtq⟩ := r
        dsimp only at hin2 i2 i3 HO HB hlt1
        obtain ⟨g, rfl⟩ := Int.eq_ofNat_of_zero_le (show 0 ≤ rfq by omega)
        obtain ⟨u, rfl⟩ := Int.eq_ofNat_of_zero_le (show 0 ≤ rtq by omega)
        have a3 : g ≤ u := by omega
        have a4 : u ≤ q.size := by omega
        clear hin2 i0 i1 i2 i3
        go_wp2
        have e0 : (wr.alloc (.cells #[Value.int .i64 rfp, Value.int .i64 rtp, Value.int .i64 g, Value.int .i64 u] 39)).cell? ⟨wr.heap.size, 0, none⟩ = some (.int .i64 rfp) := by rw [cell_new _ _ _ _ _ rfl]; rfl
        have e1 : (wr.alloc (.cells #[Value.int .i64 rfp, Value.int .i64 rtp, Value.int .i64 g, Value.int .i64 u] 39)).cell? ⟨wr.heap.size, 1, none⟩ = some (.int .i64 rtp) := by rw [cell_new _ _ _ _ _ rfl]; rfl
        have e2 : (wr.alloc (.cells #[Value.int .i64 rfp, Value.int .i64 rtp, Value.int .i64 g, Value.int .i64 u] 39)).cell? ⟨wr.heap.size, 2, none⟩ = some (.int .i64 g) := by rw [cell_new _ _ _ _ _ rfl]; rfl
        have e3 : (wr.alloc (.cells #[Value.int .i64 rfp, Value.int .i64 rtp, Value.int .i64 g, Value.int .i64 u] 39)).cell? ⟨wr.heap.size, 3, none⟩ = some (.int .i64 u) := by rw [cell_new _ _ _ _ _ rfl]; rfl
        generalize wr.alloc (.cells #[Value.int .i64 rfp, Value.int .i64 rtp, Value.int .i64 g, Value.int .i64 u] 39) = W1 at e0 e1 e2 e3 HO HB hlt1 ⊢
        have s2 := HB.out.size
        have h1c : ∀ v ∈ ecells ⟨rfp, rtp, q.extract g u⟩, v.oneCell' = true := by
          intro v hv; simp only [ecells, List.mem_cons, List.not_mem_nil, or_false] at hv; rcases hv with rfl | rfl | rfl <;> rfl
        have hm1 : k + 1 ≤ maxLen := by unfold maxLen; omega
        have hn1 : (k + 1) * 32 ≤ 140737488355328 := by omega
        have old : ∀ (o : Obj) (j : Nat) (v : Value), W1.cell? ⟨wr.heap.size, j, none⟩ = some v → (W1.drew.alloc o).cell? ⟨wr.heap.size, j, none⟩ = some v := fun o j v h => by rw [cell_old W1.drew _ _ _ hlt1]; exact h
        have far : ∀ (o : Obj) (W3 : World) (j : Nat) (v : Value), (W1.drew.alloc o).grownBy W3 (Value.ownBlock (.slice a2 k c2)) → W1.cell? ⟨wr.heap.size, j, none⟩ = some v → W3.cell? ⟨wr.heap.size, j, none⟩ = some v := fun o W3 j v hg h => by
          rw [hg.cell_far ⟨wr.heap.size, j, none⟩ (show wr.heap.size < (W1.drew.alloc o).heap.size by have : W1.drew.heap.size = W1.heap.size := rfl; simp; omega) hne]
          exact old o j v h
        have Old := Lib.hid old
        have Far := Lib.hid far
        clear old far
        go_region_held_law (fun W => W.cell? ⟨wr.heap.size, 0, none⟩ = some (.int .i64 rfp) ∧ W.cell? ⟨wr.heap.size, 1, none⟩ = some (.int .i64 rtp) ∧ W.cell? ⟨wr.heap.size, 2, none⟩ = some (.int .i64 g) ∧ W.cell? ⟨wr.heap.size, 3, none⟩ = some (.int .i64 u))
          (first | exact ⟨e0, e1, e2, e3⟩ | exact ⟨Old.out _ _ _ e0, Old.out _ _ _ e1, Old.out _ _ _ e2, Old.out _ _ _ e3⟩ | exact ⟨Far.out _ _ _ _ hg e0, Far.out _ _ _ _ hg e1, Far.out _ _ _ _ hg e2, Far.out _ _ _ _ hg e3⟩)
          ((refine step_append_s edT (by decide) (by rfl) _ _ (by rfl) w.heap.size (by rfl) ((HO.out.below (Below.drew (Below.refl _ _))).below ((Below.refl _ _).alloc (Nat.le_refl _) _)) (by rfl) ⟨rfp, rtp, q.extract g u⟩ rfl h1c (src_new _ (ecells ⟨rfp, rtp, q.extract g u⟩) 41) hn1 hm1 (by simp; omega) ?_; intro a3' c3' W3 HO3 HB3 hg))
        go_wp2
        go_roundw
        case rel => exact ⟨k + 1, a3', c3', by omega, by go_num, rfl, HB.out.trans ((Below.alloc (Below.drew (Below.refl _ _)) s2 _).trans HB3), by rw [HM.out]; exact HO3, HS⟩
        case measure => simp [intOf]; omega
    · obtain rfl : k = n := by omega
      have hl : l.take k = l := List.take_of_length_le (by have := HX.out.len; omega)
      rw [hl] at ho hok
      go_wp2
      all_goals
        go_ret2
        exact ⟨hb, .inr ⟨hok.out, _, _, _, rfl, ho.out⟩⟩
end Go.Proofs.Ytcncfljpbbpaoaa.rg
