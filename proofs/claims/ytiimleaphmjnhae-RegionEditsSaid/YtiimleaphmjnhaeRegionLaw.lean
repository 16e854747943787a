/-
  Layer 38: the statement on the one region.
-/
import Derived.Test.YtiimleaphmjnhaeRegionRef
import Derived.Test.YtiimleaphmjnhaeRegionSame
namespace Go.Proofs.Ytiimleaphmjnhae.rg
open Go.ChangeShapes Go.WideShapes Go.ChangeAt Go.RowKit
open bs
set_option linter.unusedVariables false

theorem cell_old (W : World) (o : Obj) (b k : Nat) (h : b < W.heap.size) : (W.alloc o).cell? ⟨b, k, none⟩ = W.cell? ⟨b, k, none⟩ := ((Below.refl W.heap.size W).alloc (Nat.le_refl _) o).cell (p := ⟨b, k, none⟩) h

set_option maxRecDepth 100000 in
set_option maxHeartbeats 1000000 in
theorem awake_any (w : World) : Calls Try.prog 9 #[] w fun e w' => e = .returned (.bool true) ∧ Below w.heap.size w w' := by
  go_enter Try.func9, Try.ntmps9
  go_wp2_with fail
  refine (one_any _ _ w (by decide) (by decide)).mono ?_
  rintro e w1 ⟨a1, n1, c1, rfl, hr1, hb1⟩
  rw [show oneL _ _ = [⟨1, 1, 1, 2⟩] by kernel_rfl] at hr1
  obtain rfl : n1 = 1 := hr1.len.symm
  have hc1 := hr1.cap
  have hc2 := hr1.most
  rcases hr1.at' with h0 | ⟨b1, o1, rfl, hbl1, hcell1⟩
  · omega
  obtain ⟨e0, e1, e2, e3, -, -, -, -⟩ := hcell1 0 _ rfl
  simp only [Nat.zero_mul, Nat.add_zero] at e0 e1 e2 e3
  clear hcell1 hr1
  go_wp2_with fail
  refine (check_any _ _ none 0 0 [] w1 ⟨rfl, Nat.le_refl _, by omega, fun _ => rfl, .inl rfl⟩ (by decide) (by decide)).mono ?_
  rintro e w2 ⟨rfl, hb2⟩
  rw [show chk _ _ [] = 21 by kernel_rfl]
  go_wp2
  go_ret
  exact ⟨rfl, hb1.trans (hb2.mono hb1.size)⟩

set_option maxRecDepth 100000 in
set_option maxHeartbeats 1000000 in
theorem law_one (p q : ByteArray) (w : World) (hp : p.size ≤ 9223372036854775807) (hq : q.size ≤ 9223372036854775807) :
    Calls Try.prog 5 #[.string p, .string q] w fun e w' => e = .returned (.bool true) ∧ Below w.heap.size w w' := by
  go_enter Try.func5, Try.ntmps5
  go_wp2_with fail
  refine (one_any p q w hp hq).mono ?_
  rintro e w1 ⟨a1, n1, c1, rfl, hr1, hb1⟩
  go_wp2_with fail
  refine (rone_any p q w1 hp hq).mono ?_
  rintro e w2 ⟨a2, n2, c2, rfl, hr2, hb2⟩
  have hr1' := hr1.below regStays hb2
  go_wp2_with fail
  refine (same_any a1 a2 n1 n2 c1 c2 (oneL p q) w2 hr1' hr2).mono ?_
  rintro e w3 ⟨rfl, hb3⟩
  have hr3 := hr1'.below regStays hb3
  clear hr1' hr1 hr2
  go_wp2_with fail
  refine (check_any p q a1 n1 c1 (oneL p q) w3 hr3 hp hq).mono ?_
  rintro e w4 ⟨rfl, hb4⟩
  have hr4 := hr3.below regStays hb4
  rw [one_chk]
  clear hr3
  have s1 := hb1.size
  have s2 := hb2.size
  have s3 := hb3.size
  have hbb : Below w.heap.size w w4 := hb1.trans ((hb2.mono s1).trans ((hb3.mono (by omega)).trans (hb4.mono (by omega))))
  have s4 := hbb.size
  clear hb1 hb2 hb3 hb4 s1 s2 s3
  have hc1 := hr4.cap
  have hc2 := hr4.most
  by_cases hpq : p = q
  · have e : (p.toList == q.toList) = true := by rw [text_eq]; exact decide_eq_true hpq
    have hl : oneL p q = [] := if_pos hpq
    rw [hl] at hr4
    obtain rfl : n1 = 0 := hr4.len.symm
    clear hpq hl
    go_wp2_with fail
    refine (awake_any w4).mono ?_
    rintro e w5 ⟨rfl, hb5⟩
    go_wp2
    go_ret
    exact ⟨rfl, hbb.trans (hb5.mono s4)⟩
  · have e : (p.toList == q.toList) = false := by rw [text_eq]; exact decide_eq_false hpq
    have hl : oneL p q = [⟨headN p q, (p.size : Int) - tailN p q, headN p q, (q.size : Int) - tailN p q⟩] := if_neg hpq
    have h1 := head_le p q
    have h2 := tail_le p q
    have HC := Lib.hid (one_left p q)
    have HD := Lib.hid (one_right p q)
    rw [hl] at hr4
    clear hl hpq
    generalize headN p q = hh at *
    generalize tailN p q = tt at *
    obtain rfl : n1 = 1 := hr4.len.symm
    rcases hr4.at' with h0 | ⟨b1, o1, rfl, hbl1, hcell1⟩
    · omega
    obtain ⟨e0, e1, e2, e3, -, -, -, -⟩ := hcell1 0 _ rfl
    simp only [Nat.zero_mul, Nat.add_zero] at e0 e1 e2 e3
    clear hcell1 hr4
    by_cases g1 : hh < p.size - tt
    · by_cases g2 : hh < q.size - tt
      · have d1 : decide ((hh : Int) < (p.size : Int) - tt) = true := decide_eq_true (by omega)
        have d2 : decide ((hh : Int) < (q.size : Int) - tt) = true := decide_eq_true (by omega)
        have HC1 := HC.out (by omega) (by omega)
        have HD1 := HD.out (by omega) (by omega)
        go_wp2_with fail
        refine (check_any p q _ 1 1 [⟨(hh : Int) + 1, (p.size : Int) - tt, (hh : Int) + 1, (q.size : Int) - tt⟩] _ ?_ hp hq).mono ?_
        · refine ⟨rfl, Nat.le_refl _, by omega, by simp, .inr ⟨_, _, rfl, by simp, fun i x hi => ?_⟩⟩
          cases i with
          | succ i => simp at hi
          | zero =>
            simp only [List.getElem?_cons_zero, Option.some.injEq] at hi
            subst hi
            exact ⟨by rw [cell_new _ _ _ _ _ (by simp)]; rfl, by rw [cell_new _ _ _ _ _ (by simp)]; rfl, by rw [cell_new _ _ _ _ _ (by simp)]; rfl, by rw [cell_new _ _ _ _ _ (by simp)]; rfl, by unfold In64; dsimp only; omega, by unfold In64; dsimp only; omega, by unfold In64; dsimp only; omega, by unfold In64; dsimp only; omega⟩
        rintro e w5 ⟨rfl, hb5⟩
        have q1 : (chk p q [⟨(hh : Int) + 1, (p.size : Int) - tt, (hh : Int) + 1, (q.size : Int) - tt⟩] == 0) = false := by simpa using HC1
        generalize chk p q [⟨(hh : Int) + 1, (p.size : Int) - tt, (hh : Int) + 1, (q.size : Int) - tt⟩] = v1 at q1
        have f0 : w5.cell? ⟨w4.heap.size + 1 + 1, 0, none⟩ = some (.int .i64 hh) := by rw [hb5.cell (by simp <;> omega), cell_old _ _ _ _ (by simp <;> omega), cell_new _ _ _ _ _ (by simp)]; rfl
        have f1 : w5.cell? ⟨w4.heap.size + 1 + 1, 1, none⟩ = some (.int .i64 ((p.size : Int) - tt - 1)) := by rw [hb5.cell (by simp <;> omega), cell_old _ _ _ _ (by simp <;> omega), cell_new _ _ _ _ _ (by simp)]; rfl
        have f2 : w5.cell? ⟨w4.heap.size + 1 + 1, 2, none⟩ = some (.int .i64 hh) := by rw [hb5.cell (by simp <;> omega), cell_old _ _ _ _ (by simp <;> omega), cell_new _ _ _ _ _ (by simp)]; rfl
        have f3 : w5.cell? ⟨w4.heap.size + 1 + 1, 3, none⟩ = some (.int .i64 ((q.size : Int) - tt - 1)) := by rw [hb5.cell (by simp <;> omega), cell_old _ _ _ _ (by simp <;> omega), cell_new _ _ _ _ _ (by simp)]; rfl
        have f4 : w5.cell? ⟨w4.heap.size, 0, none⟩ = some (.int .i64 hh) := by rw [hb5.cell (by simp <;> omega), cell_old _ _ _ _ (by simp <;> omega), cell_old _ _ _ _ (by simp <;> omega), cell_old _ _ _ _ (by simp <;> omega), cell_new _ _ _ _ _ (by simp)]; rfl
        have f5 : w5.cell? ⟨w4.heap.size, 1, none⟩ = some (.int .i64 ((p.size : Int) - tt)) := by rw [hb5.cell (by simp <;> omega), cell_old _ _ _ _ (by simp <;> omega), cell_old _ _ _ _ (by simp <;> omega), cell_old _ _ _ _ (by simp <;> omega), cell_new _ _ _ _ _ (by simp)]; rfl
        have f6 : w5.cell? ⟨w4.heap.size, 2, none⟩ = some (.int .i64 hh) := by rw [hb5.cell (by simp <;> omega), cell_old _ _ _ _ (by simp <;> omega), cell_old _ _ _ _ (by simp <;> omega), cell_old _ _ _ _ (by simp <;> omega), cell_new _ _ _ _ _ (by simp)]; rfl
        have f7 : w5.cell? ⟨w4.heap.size, 3, none⟩ = some (.int .i64 ((q.size : Int) - tt)) := by rw [hb5.cell (by simp <;> omega), cell_old _ _ _ _ (by simp <;> omega), cell_old _ _ _ _ (by simp <;> omega), cell_old _ _ _ _ (by simp <;> omega), cell_new _ _ _ _ _ (by simp)]; rfl
        have s5 : w4.heap.size + 4 ≤ w5.heap.size := by have := hb5.size; simp at this; omega
        have hbb5 : Below w.heap.size w w5 := by
          refine hbb.trans (Below.trans ?_ (hb5.mono (by simp; omega)))
          exact ((((Below.refl _ _).alloc (by (try simp); omega) _).alloc (by (try simp); omega) _).alloc (by (try simp); omega) _).alloc (by (try simp); omega) _
        clear hb5 hbb
        go_wp2_with fail
        refine (check_any p q _ 1 1 [⟨hh, (p.size : Int) - tt - 1, hh, (q.size : Int) - tt - 1⟩] _ ?_ hp hq).mono ?_
        · refine ⟨rfl, Nat.le_refl _, by omega, by simp, .inr ⟨_, _, rfl, by simp, fun i x hi => ?_⟩⟩
          cases i with
          | succ i => simp at hi
          | zero =>
            simp only [List.getElem?_cons_zero, Option.some.injEq] at hi
            subst hi
            exact ⟨by rw [cell_new _ _ _ _ _ (by simp)]; rfl, by rw [cell_new _ _ _ _ _ (by simp)]; rfl, by rw [cell_new _ _ _ _ _ (by simp)]; rfl, by rw [cell_new _ _ _ _ _ (by simp)]; rfl, by unfold In64; dsimp only; omega, by unfold In64; dsimp only; omega, by unfold In64; dsimp only; omega, by unfold In64; dsimp only; omega⟩
        rintro e w6 ⟨rfl, hb6⟩
        have q2 : (chk p q [⟨hh, (p.size : Int) - tt - 1, hh, (q.size : Int) - tt - 1⟩] == 0) = false := by simpa using HD1
        generalize chk p q [⟨hh, (p.size : Int) - tt - 1, hh, (q.size : Int) - tt - 1⟩] = v2 at q2
        have k0 : w6.cell? ⟨w4.heap.size, 0, none⟩ = some (.int .i64 hh) := by rw [hb6.cell (by simp <;> omega), cell_old _ _ _ _ (by omega)]; exact f4
        have k1 : w6.cell? ⟨w4.heap.size, 1, none⟩ = some (.int .i64 ((p.size : Int) - tt)) := by rw [hb6.cell (by simp <;> omega), cell_old _ _ _ _ (by omega)]; exact f5
        have k2 : w6.cell? ⟨w4.heap.size, 2, none⟩ = some (.int .i64 hh) := by rw [hb6.cell (by simp <;> omega), cell_old _ _ _ _ (by omega)]; exact f6
        have k3 : w6.cell? ⟨w4.heap.size, 3, none⟩ = some (.int .i64 ((q.size : Int) - tt)) := by rw [hb6.cell (by simp <;> omega), cell_old _ _ _ _ (by omega)]; exact f7
        have hbb6 : Below w.heap.size w w6 := by
          refine hbb5.trans (Below.trans ?_ (hb6.mono (by simp; omega)))
          exact (Below.refl _ _).alloc (by (try simp); omega) _
        have s6 := hbb6.size
        clear hb6 hbb5 f0 f1 f2 f3 f4 f5 f6 f7
        go_wp2_with fail
        refine (awake_any w6).mono ?_
        rintro e w7 ⟨rfl, hb7⟩
        go_wp2
        go_ret
        exact ⟨rfl, hbb6.trans (hb7.mono s6)⟩
      · have d1 : decide ((hh : Int) < (p.size : Int) - tt) = true := decide_eq_true (by omega)
        have d2 : decide ((hh : Int) < (q.size : Int) - tt) = false := decide_eq_false (by omega)
        go_wp2_with fail
        refine (awake_any _).mono ?_
        rintro e w5 ⟨rfl, hb5⟩
        go_wp2
        go_ret
        exact ⟨rfl, (hbb.alloc s4 _).trans (hb5.mono (by simp; omega))⟩
    · have d1 : decide ((hh : Int) < (p.size : Int) - tt) = false := decide_eq_false (by omega)
      go_wp2_with fail
      refine (awake_any _).mono ?_
      rintro e w5 ⟨rfl, hb5⟩
      go_wp2
      go_ret
      exact ⟨rfl, (hbb.alloc s4 _).trans (hb5.mono (by simp; omega))⟩
end Go.Proofs.Ytiimleaphmjnhae.rg
