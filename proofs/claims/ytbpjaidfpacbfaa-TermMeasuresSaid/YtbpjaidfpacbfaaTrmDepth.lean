/-
  Layer 6: how deep a term is; the document's answer.
-/
import Derived.Test.YtbpjaidfpacbfaaTrmSames
namespace Go.Proofs.Ytbpjaidfpacbfaa.te
open Go.ChangeShapes Go.WideShapes Go.ChangeAt Go.RowKit
open bs tr
set_option linter.unusedVariables false

theorem foldl_max_le (l : List Nat) : ∀ (a b : Nat), a ≤ b → (∀ x ∈ l, x ≤ b) → l.foldl max a ≤ b := by
  induction l with
  | nil => intro a b h _; exact h
  | cons x l ih =>
    intro a b h hl
    exact ih _ _ (Nat.max_le.2 ⟨h, hl x (by simp)⟩) (fun y hy => hl y (by simp [hy]))
theorem depth_le (t : VT) : Tr.depth t ≤ Tr.size t := by
  induction t using Tr.ind with
  | h x l ih =>
    rw [Tr.depth_mk]
    have h : (l.map Tr.depth).foldl max 0 + 1 ≤ Tr.size (Tr.mk x l) := by
      have h1 : (l.map Tr.depth).foldl max 0 ≤ Tr.size (Tr.mk x l) - 1 := foldl_max_le _ _ _ (Nat.zero_le _) (fun y hy => by
        rw [List.mem_map] at hy
        obtain ⟨z, hz, rfl⟩ := hy
        have h1 := ih z hz
        have h2 := Tr.size_le (x := x) hz
        omega)
      have := Tr.size_pos (Tr.mk x l)
      omega
    exact h
/-- How deep the first k parts are. -/
noncomputable def mx (l : List VT) (k : Nat) : Nat := ((l.take k).map Tr.depth).foldl max 0
theorem mx_zero (l : List VT) : mx l 0 = 0 := rfl
theorem mx_succ {l : List VT} {k : Nat} {x : VT} (h : l[k]? = some x) : mx l (k + 1) = max (mx l k) x.depth := by
  unfold mx
  rw [List.take_add_one, h]
  simp
theorem mx_le {x : Lab} {l : List VT} (k : Nat) : mx l k ≤ Tr.size (Tr.mk x l) := by
  unfold mx
  refine foldl_max_le _ _ _ (Nat.zero_le _) (fun y hy => ?_)
  rw [List.mem_map] at hy
  obtain ⟨z, hz, rfl⟩ := hy
  have h1 := depth_le z
  have h2 := Tr.size_le (x := x) (List.mem_of_mem_take hz)
  omega
theorem mx_all {x : Lab} {l : List VT} {m : Nat} (h : l.length = m) : Tr.depth (Tr.mk x l) = mx l m + 1 := by
  rw [Tr.depth_mk, mx, List.take_of_length_le (by omega)]

set_option maxRecDepth 100000 in
set_option maxHeartbeats 2000000 in
theorem rdepth_any (t : VT) : ∀ (a : Vn) (w : World), a.tr = t → a.Rd w → t.size ≤ 100000 → Calls Try.prog 17 #[A6 a] w (ZP a.tr.depth w) := by
  induction t using Tr.ind with
  | h tx tl ih =>
  intro a w hat ha hsz
  obtain ⟨ax, aa, am, ac, al⟩ := a
  cases hat
  obtain ⟨ha, hax⟩ := ha
  dsimp only at ha hax
  have hcapa := ha.cap; have hmosta := ha.most; have hlen := ha.len
  have hsz2 : Tr.size (Tr.mk ax al) ≤ 100000 := hsz
  have hW1 : Below w.heap.size w (w.alloc (.cells #[.int .i64 ax.k, .int .i64 ax.n, .string ax.s, .slice aa am ac, .int .i64 ax.f, .int .i64 ax.t] 24)) := ((Below.refl _ _).alloc (Nat.le_refl _) _)
  have hX : Blk (w.alloc (.cells #[.int .i64 ax.k, .int .i64 ax.n, .string ax.s, .slice aa am ac, .int .i64 ax.f, .int .i64 ax.t] 24)) w.heap.size #[.int .i64 ax.k, .int .i64 ax.n, .string ax.s, .slice aa am ac, .int .i64 ax.f, .int .i64 ax.t] 24 := Blk.new w _ _
  have hmx : ∀ k, mx al k ≤ 100000 := fun k => Nat.le_trans (mx_le (x := ax) k) hsz2
  have hkid : ∀ x ∈ al, x.depth ≤ 100000 ∧ x.size ≤ 100000 := fun x hx => by
    have h1 := depth_le x
    have h2 := Tr.size_le (x := ax) hx
    omega
  have HW := Lib.hid hW1; have HX := Lib.hid hX
  have HA := Lib.hid (ha.below va_stays hW1)
  have HIH := Lib.hid ih; have HLEN := Lib.hid hlen; have HMX := Lib.hid hmx; have HKID := Lib.hid hkid
  clear ha hW1 hX ih hlen hsz hsz2 hmx hkid
  go_enter Try.func17, Try.ntmps17
  go_wp2_with fail
  generalize hWW : (w.alloc (.cells #[.int .i64 ax.k, .int .i64 ax.n, .string ax.s, .slice aa am ac, .int .i64 ax.f, .int .i64 ax.t] 24)) = W at HW HX HA ⊢
  clear hWW
  go_loopw [3, 4, 5] (fun s i _ wr => ∃ (k : Nat), k ≤ am ∧ i = .int .i64 k ∧ s = .int .i64 ((mx al k : Nat) : Int) ∧ Hid (Below W.heap.size W wr)) (fun _ i _ _ => am - (intOf i).toNat)
  case atStart => exact ⟨0, by omega, rfl, by rw [mx_zero]; rfl, Lib.hid (Below.refl _ _)⟩
  case round =>
    obtain ⟨k, hk2, rfl, rfl, HR⟩ := hrel
    have p1 := (HX.out.below HR.out).cell 3
    simp at p1
    by_cases hlt : k < am
    · obtain ⟨b1, o1, x1, rfl, hb1, hx1, hc1⟩ := recs_at (HA.out.below va_stays HR.out) hlt
      obtain ⟨v1, hv1, hr1, c10, c11, c12, c13, c14, c15⟩ := VA.out hc1
      have HR1 := Lib.hid hr1
      have HV1 := Lib.hid hv1
      have hmem : x1 ∈ al := List.mem_of_getElem? hx1
      have HMEM := Lib.hid hmem
      have HSK := Lib.hid (mx_succ hx1)
      have hb2 := HKID.out x1 hmem
      have hb3 := HMX.out k
      clear hr1 hv1 hx1 hmem hc1
      obtain ⟨z1, aa1, am1, ac1, al1⟩ := v1
      dsimp only at c10 c11 c12 c13 c14 c15
      generalize mx al k = S0 at HSK hb3
      generalize hS : x1.depth = S1 at HSK hb2
      go_wp2_with fail
      refine (HIH.out x1 HMEM.out ⟨z1, aa1, am1, ac1, al1⟩ _ HV1.out HR1.out hb2.2).mono ?_
      rintro e w2 ⟨rfl, hb2'⟩
      rw [HV1.out, hS]
      have HBW := Lib.hid (HR.out.trans (hb2'.mono HR.out.size))
      clear hb2'
      by_cases hgt : S0 < S1
      · have hd : decide (S0 < S1) = true := decide_eq_true hgt
        go_wp2
        go_roundw
        case rel => exact ⟨k + 1, by omega, by go_num, by rw [HSK.out, Nat.max_eq_right (by omega)], HBW⟩
        case measure => simp [intOf]; omega
      · have hd : decide (S0 < S1) = false := decide_eq_false hgt
        go_wp2
        go_roundw
        case rel => exact ⟨k + 1, by omega, by go_num, by rw [HSK.out, Nat.max_eq_left (by omega)], HBW⟩
        case measure => simp [intOf]; omega
    · obtain rfl : k = am := by omega
      have HAL := Lib.hid (mx_all (x := ax) HLEN.out)
      have hb3 := HMX.out k
      generalize mx al k = S0 at HAL hb3
      have hw : IntKind.i64.wrap ((S0 : Int) + 1) = ((S0 + 1 : Nat) : Int) := by rw [IntWalk.i64_in _ (by omega)]; omega
      go_wp2
      go_ret
      exact ⟨by show _ = Ending.returned (.int .i64 ((Tr.depth (Tr.mk ax al) : Nat) : Int)); rw [HAL.out]; rfl, HW.out.trans (HR.out.mono HW.out.size)⟩
end Go.Proofs.Ytbpjaidfpacbfaa.te
