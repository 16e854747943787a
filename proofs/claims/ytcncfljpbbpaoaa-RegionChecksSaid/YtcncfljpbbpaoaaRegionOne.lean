/-
  Layer 38: what two texts have in common: contracts of the program's 'One'.
-/
import Derived.Test.YtcncfljpbbpaoaaStructs
import Derived.Test.YtcncfljpbbpaoaaTexts
import Derived.WalkLawsBesides
import Derived.WalkSpells
namespace Go.Proofs.Ytcncfljpbbpaoaa.rg
open Go.ChangeShapes Go.WideShapes Go.ChangeAt Go.RowKit
open bs
set_option linter.unusedVariables false

theorem ret_int {k : IntKind} {a b : Int} (h : a = b) : Ending.returned (.int k a) = .returned (.int k b) := by rw [h]
theorem ret_two {k l : IntKind} {a b c d : Int} (h : a = b) (g : c = d) : Ending.returned (.tuple #[.int k a, .int l c]) = .returned (.tuple #[.int k b, .int l d]) := by rw [h, g]

set_option maxHeartbeats 400000 in
theorem look1 (p q : ByteArray) (i : Nat) (b1 b2 : Nat) (w : World) (hp : i < p.size) (hq : i < q.size) (h1 : w.cell? ⟨b1, 0, none⟩ = some (.string p)) (h2 : w.cell? ⟨b2, 0, none⟩ = some (.string q)) (hm : p.size ≤ 9223372036854775807) (hm' : q.size ≤ 9223372036854775807) :
    Calls Try.prog 74 #[.int .i64 i, .pointer (some ⟨b1, 0, none⟩), .pointer (some ⟨b2, 0, none⟩)] w fun e w' => e = .returned (.tuple #[.int .u8 ((txt p).getD i 0), .int .u8 ((txt q).getD i 0)]) ∧ ∃ m, w' = w.drewN m := by
  have e1 := Lib.hid (txt_at p i hp)
  have e2 := Lib.hid (txt_at q i hq)
  go_enter Try.func74, Try.ntmps74
  go_wp2_with fail
  go_quiet (fail)
  go_wp2
  go_ret2
  exact ⟨ret_two e1.out e2.out, _, rfl⟩

set_option maxHeartbeats 400000 in
theorem look2 (p q : ByteArray) (i : Nat) (b1 b2 : Nat) (w : World) (hp : i < p.size) (hq : i < q.size) (h1 : w.cell? ⟨b1, 0, none⟩ = some (.string p)) (h2 : w.cell? ⟨b2, 0, none⟩ = some (.string q)) (hm : p.size ≤ 9223372036854775807) (hm' : q.size ≤ 9223372036854775807) :
    Calls Try.prog 75 #[.int .i64 i, .pointer (some ⟨b1, 0, none⟩), .pointer (some ⟨b2, 0, none⟩)] w fun e w' => e = .returned (.tuple #[.int .u8 ((txt p).getD (p.size - 1 - i) 0), .int .u8 ((txt q).getD (q.size - 1 - i) 0)]) ∧ ∃ m, w' = w.drewN m := by
  have e1 := Lib.hid (txt_at p (p.size - 1 - i) (by omega))
  have e2 := Lib.hid (txt_at q (q.size - 1 - i) (by omega))
  have k1 : (p.size : Int) - 1 - i = ((p.size - 1 - i : Nat) : Int) := by omega
  have k2 : (q.size : Int) - 1 - i = ((q.size - 1 - i : Nat) : Int) := by omega
  have k3 : p.size - 1 - i < p.size := by omega
  have k4 : q.size - 1 - i < q.size := by omega
  go_enter Try.func75, Try.ntmps75
  go_wp2_with fail
  go_quiet (fail)
  go_wp2
  go_ret2
  exact ⟨ret_two e1.out e2.out, _, rfl⟩

set_option maxHeartbeats 1000000 in
theorem alike1 (n : Nat) (x y : Nat → Int) (b1 b2 : Nat) (w : World) (hn : n ≤ 9223372036854775807)
    (H : ∀ (i : Nat) (m : Nat), i < n → Calls Try.prog 74 #[.int .i64 i, .pointer (some ⟨b1, 0, none⟩), .pointer (some ⟨b2, 0, none⟩)] (w.drewN m) fun e w' => e = .returned (.tuple #[.int .u8 (x i), .int .u8 (y i)]) ∧ ∃ k, w' = (w.drewN m).drewN k) :
    Calls Try.prog 73 #[.int .i64 n, .func (.func 74) #[] #[.pointer (some ⟨b1, 0, none⟩), .pointer (some ⟨b2, 0, none⟩)]] w fun e w' => e = .returned (.int .i64 (lead (fun i => x i == y i) n 0)) ∧ ∃ m, w' = w.drewN m := by
  have HH := Lib.hid H; clear H
  go_enter Try.func73, Try.ntmps73
  go_wp2
  go_loopw [9] (fun i wr => ∃ k m : Nat, k ≤ n ∧ i = .int .i64 k ∧ wr = w.drewN m ∧ Hid (lead (fun i => x i == y i) (n - k) k = lead (fun i => x i == y i) n 0)) (fun i _ => n - (intOf i).toNat)
  case atStart => exact ⟨0, 0, by omega, rfl, rfl, rfl⟩
  case round =>
    obtain ⟨k, m, hk, rfl, rfl, hl⟩ := hrel
    by_cases hkn : k < n
    · have HC := Lib.hid (HH.out k m hkn)
      rcases Bool.eq_false_or_eq_true (x k == y k) with hB | hB
      · have hst : lead (fun i => x i == y i) (n - (k + 1)) (k + 1) = lead (fun i => x i == y i) n 0 := by
          rw [← hl.out, show n - k = (n - (k + 1)) + 1 by omega]
          exact (lead_yes (fun i => x i == y i) _ _ hB).symm
        have hne : (x k != y k) = false := by rw [bne, hB]; rfl
        have HS := Lib.hid hst
        clear hst hB
        go_wp2_with fail
        refine (HC.out).mono ?_
        rintro e w' ⟨rfl, j, rfl⟩
        go_wp2
        go_roundw
        case rel => exact ⟨k + 1, _, by omega, by go_num, rfl, HS.out⟩
        case measure => simp [intOf]; omega
      · have hst : lead (fun i => x i == y i) n 0 = k := by
          rw [← hl.out]
          exact lead_no (fun i => x i == y i) _ _ hB
        have hne : (x k != y k) = true := by rw [bne, hB]; rfl
        have HS := Lib.hid hst
        clear hst hB
        go_wp2_with fail
        refine (HC.out).mono ?_
        rintro e w' ⟨rfl, j, rfl⟩
        go_wp2
        go_ret
        exact ⟨ret_int (by rw [HS.out]), _, rfl⟩
    · obtain rfl : k = n := by omega
      have hst : lead (fun i => x i == y i) k 0 = k := by
        rw [← hl.out, Nat.sub_self]; rfl
      have HS := Lib.hid hst
      clear hst
      go_wp2
      all_goals
        go_ret
        exact ⟨ret_int (by rw [HS.out]), _, rfl⟩

set_option maxHeartbeats 1000000 in
theorem alike2 (n : Nat) (x y : Nat → Int) (b1 b2 : Nat) (w : World) (hn : n ≤ 9223372036854775807)
    (H : ∀ (i : Nat) (m : Nat), i < n → Calls Try.prog 75 #[.int .i64 i, .pointer (some ⟨b1, 0, none⟩), .pointer (some ⟨b2, 0, none⟩)] (w.drewN m) fun e w' => e = .returned (.tuple #[.int .u8 (x i), .int .u8 (y i)]) ∧ ∃ k, w' = (w.drewN m).drewN k) :
    Calls Try.prog 73 #[.int .i64 n, .func (.func 75) #[] #[.pointer (some ⟨b1, 0, none⟩), .pointer (some ⟨b2, 0, none⟩)]] w fun e w' => e = .returned (.int .i64 (lead (fun i => x i == y i) n 0)) ∧ ∃ m, w' = w.drewN m := by
  have HH := Lib.hid H; clear H
  go_enter Try.func73, Try.ntmps73
  go_wp2
  go_loopw [9] (fun i wr => ∃ k m : Nat, k ≤ n ∧ i = .int .i64 k ∧ wr = w.drewN m ∧ Hid (lead (fun i => x i == y i) (n - k) k = lead (fun i => x i == y i) n 0)) (fun i _ => n - (intOf i).toNat)
  case atStart => exact ⟨0, 0, by omega, rfl, rfl, rfl⟩
  case round =>
    obtain ⟨k, m, hk, rfl, rfl, hl⟩ := hrel
    by_cases hkn : k < n
    · have HC := Lib.hid (HH.out k m hkn)
      rcases Bool.eq_false_or_eq_true (x k == y k) with hB | hB
      · have hst : lead (fun i => x i == y i) (n - (k + 1)) (k + 1) = lead (fun i => x i == y i) n 0 := by
          rw [← hl.out, show n - k = (n - (k + 1)) + 1 by omega]
          exact (lead_yes (fun i => x i == y i) _ _ hB).symm
        have hne : (x k != y k) = false := by rw [bne, hB]; rfl
        have HS := Lib.hid hst
        clear hst hB
        go_wp2_with fail
        refine (HC.out).mono ?_
        rintro e w' ⟨rfl, j, rfl⟩
        go_wp2
        go_roundw
        case rel => exact ⟨k + 1, _, by omega, by go_num, rfl, HS.out⟩
        case measure => simp [intOf]; omega
      · have hst : lead (fun i => x i == y i) n 0 = k := by
          rw [← hl.out]
          exact lead_no (fun i => x i == y i) _ _ hB
        have hne : (x k != y k) = true := by rw [bne, hB]; rfl
        have HS := Lib.hid hst
        clear hst hB
        go_wp2_with fail
        refine (HC.out).mono ?_
        rintro e w' ⟨rfl, j, rfl⟩
        go_wp2
        go_ret
        exact ⟨ret_int (by rw [HS.out]), _, rfl⟩
    · obtain rfl : k = n := by omega
      have hst : lead (fun i => x i == y i) k 0 = k := by
        rw [← hl.out, Nat.sub_self]; rfl
      have HS := Lib.hid hst
      clear hst
      go_wp2
      all_goals
        go_ret
        exact ⟨ret_int (by rw [HS.out]), _, rfl⟩

/-- A region: from where to where in the one text, and in the other one. -/
structure Reg where
  fp : Int
  tp : Int
  fq : Int
  tq : Int
def In64 (n : Int) : Prop := -9223372036854775808 ≤ n ∧ n ≤ 9223372036854775807
/-- A region's four cells. -/
structure RegAt (w : World) (b o : Nat) (r : Reg) : Prop where
  c0 : w.cell? ⟨b, o, none⟩ = some (.int .i64 r.fp)
  c1 : w.cell? ⟨b, o + 1, none⟩ = some (.int .i64 r.tp)
  c2 : w.cell? ⟨b, o + 2, none⟩ = some (.int .i64 r.fq)
  c3 : w.cell? ⟨b, o + 3, none⟩ = some (.int .i64 r.tq)
  in0 : In64 r.fp
  in1 : In64 r.tp
  in2 : In64 r.fq
  in3 : In64 r.tq
theorem regStays : Stays RegAt := fun w w' b o r h hlt hb =>
  ⟨by rw [hb.cell (p := ⟨b, o, none⟩) hlt]; exact h.c0, by rw [hb.cell (p := ⟨b, o + 1, none⟩) hlt]; exact h.c1, by rw [hb.cell (p := ⟨b, o + 2, none⟩) hlt]; exact h.c2, by rw [hb.cell (p := ⟨b, o + 3, none⟩) hlt]; exact h.c3, h.in0, h.in1, h.in2, h.in3⟩

/-- How many leading bytes two texts have in common; and how many of those at the end, but for these. -/
def headN (p q : ByteArray) : Nat := lead (fun i => (txt p).getD i 0 == (txt q).getD i 0) (min p.size q.size) 0
def tailN (p q : ByteArray) : Nat := lead (fun i => (txt p).getD (p.size - 1 - i) 0 == (txt q).getD (q.size - 1 - i) 0) (min p.size q.size - headN p q) 0
/-- The one region. -/
def oneL (p q : ByteArray) : List Reg := if p = q then [] else [⟨headN p q, (p.size : Int) - tailN p q, headN p q, (q.size : Int) - tailN p q⟩]
theorem head_le (p q : ByteArray) : headN p q ≤ min p.size q.size := by have := (lead_bd (fun i => (txt p).getD i 0 == (txt q).getD i 0) (min p.size q.size) 0).2; unfold headN; omega
theorem tail_le (p q : ByteArray) : tailN p q ≤ min p.size q.size - headN p q := by have := (lead_bd (fun i => (txt p).getD (p.size - 1 - i) 0 == (txt q).getD (q.size - 1 - i) 0) (min p.size q.size - headN p q) 0).2; unfold tailN; omega

def RPost (w : World) (l : List Reg) (e : Ending) (w' : World) : Prop :=
  ∃ (a : Option Addr) (n c : Nat), e = .returned (.slice a n c) ∧ Recs 4 RegAt w' a n c l ∧ Below w.heap.size w w'

set_option maxHeartbeats 1000000 in
theorem one_any (p q : ByteArray) (w : World) (hp : p.size ≤ 9223372036854775807) (hq : q.size ≤ 9223372036854775807) :
    Calls Try.prog 52 #[.string p, .string q] w (RPost w (oneL p q)) := by
  have hmf : ∀ (fn : Fn) (first cap : Array Value) (w : World), (Instr.makeFunc fn first cap).run Try.prog w = .ok (.func fn first cap) w := fun _ _ _ _ => rfl
  by_cases hpq : p = q
  · have e : (p.toList == q.toList) = true := by rw [text_eq]; exact decide_eq_true hpq
    have hl : oneL p q = [] := if_pos hpq
    have HL := Lib.hid hl
    clear hpq hl
    go_enter Try.func52, Try.ntmps52
    go_wp2
    go_ret
    refine ⟨none, 0, 0, rfl, ?_, ((Below.refl _ _).alloc (Nat.le_refl _) _).alloc (by simp) _⟩
    rw [HL.out]
    exact ⟨rfl, Nat.le_refl _, by omega, fun _ => rfl, .inl rfl⟩
  · have e : (p.toList == q.toList) = false := by rw [text_eq]; exact decide_eq_false hpq
    have hl : oneL p q = [⟨headN p q, (p.size : Int) - tailN p q, headN p q, (q.size : Int) - tailN p q⟩] := if_neg hpq
    have HL := Lib.hid hl
    have h1 := head_le p q
    have h2 := tail_le p q
    have hd : lead (fun i => (txt p).getD i 0 == (txt q).getD i 0) (min p.size q.size) 0 = headN p q := rfl
    have ht : lead (fun i => (txt p).getD (p.size - 1 - i) 0 == (txt q).getD (q.size - 1 - i) 0) (min p.size q.size - headN p q) 0 = tailN p q := rfl
    have HD := Lib.hid hd; have HT := Lib.hid ht
    generalize headN p q = hh at HL h1 h2 HD HT
    generalize tailN p q = tt at HL h2 HT
    clear hpq hl hd ht
    generalize hm : min p.size q.size = m at h1 h2 HD HT
    have HM := Lib.hid hm; clear hm
    rcases Nat.lt_or_ge q.size p.size with hle | hle
    · have hmp : m = q.size := by have := HM.out; omega
      subst hmp
      go_enter Try.func52, Try.ntmps52
      go_wp2_with fail
      refine (alike1 q.size (fun i => (txt p).getD i 0) (fun i => (txt q).getD i 0) w.heap.size (w.heap.size + 1) _ (by omega) (fun i m hi => look1 p q i w.heap.size (w.heap.size + 1) _ (by omega) (by omega) (by simp) (by simp) hp hq)).mono ?_
      rintro e w1 ⟨rfl, m1, rfl⟩
      rw [HD.out]
      have hsub : (q.size : Int) - hh = ((q.size - hh : Nat) : Int) := by omega
      go_wp2_with fail
      refine (alike2 (q.size - hh) (fun i => (txt p).getD (p.size - 1 - i) 0) (fun i => (txt q).getD (q.size - 1 - i) 0) w.heap.size (w.heap.size + 1) _ (by omega) (fun i m hi => look2 p q i w.heap.size (w.heap.size + 1) _ (by omega) (by omega) (by simp) (by simp) hp hq)).mono ?_
      rintro e w2 ⟨rfl, m2, rfl⟩
      rw [HT.out]
      clear hsub
      go_wp2
      go_ret
      refine ⟨_, 1, 1, rfl, ?_, ?_⟩
      · rw [HL.out]
        refine ⟨rfl, Nat.le_refl _, by omega, by simp, .inr ⟨w.heap.size + 1 + 1, 0, rfl, by simp, fun i x hi => ?_⟩⟩
        cases i with
        | succ i => simp at hi
        | zero =>
          simp only [List.getElem?_cons_zero, Option.some.injEq] at hi
          subst hi
          exact ⟨by rw [cell_new _ _ _ _ _ (by simp)]; rfl, by rw [cell_new _ _ _ _ _ (by simp)]; rfl, by rw [cell_new _ _ _ _ _ (by simp)]; rfl, by rw [cell_new _ _ _ _ _ (by simp)]; rfl, by unfold In64; dsimp only; omega, by unfold In64; dsimp only; omega, by unfold In64; dsimp only; omega, by unfold In64; dsimp only; omega⟩
      · first
          | exact (below_drewN (((Below.refl _ _).alloc (Nat.le_refl _) _).alloc (by simp) _) _).alloc (by (try simp); omega) _
          | exact below_drewN ((((Below.refl _ _).alloc (Nat.le_refl _) _).alloc (by simp) _).alloc (by (try simp); omega) _) _
          | (repeat (first | exact Below.refl _ _ | apply below_drewN | (refine Below.alloc ?_ (by (try simp); omega) _)))
    · have hmp : m = p.size := by have := HM.out; omega
      subst hmp
      go_enter Try.func52, Try.ntmps52
      go_wp2_with fail
      refine (alike1 p.size (fun i => (txt p).getD i 0) (fun i => (txt q).getD i 0) w.heap.size (w.heap.size + 1) _ (by omega) (fun i m hi => look1 p q i w.heap.size (w.heap.size + 1) _ (by omega) (by omega) (by simp) (by simp) hp hq)).mono ?_
      rintro e w1 ⟨rfl, m1, rfl⟩
      rw [HD.out]
      have hsub : (p.size : Int) - hh = ((p.size - hh : Nat) : Int) := by omega
      go_wp2_with fail
      refine (alike2 (p.size - hh) (fun i => (txt p).getD (p.size - 1 - i) 0) (fun i => (txt q).getD (q.size - 1 - i) 0) w.heap.size (w.heap.size + 1) _ (by omega) (fun i m hi => look2 p q i w.heap.size (w.heap.size + 1) _ (by omega) (by omega) (by simp) (by simp) hp hq)).mono ?_
      rintro e w2 ⟨rfl, m2, rfl⟩
      rw [HT.out]
      clear hsub
      go_wp2
      go_ret
      refine ⟨_, 1, 1, rfl, ?_, ?_⟩
      · rw [HL.out]
        refine ⟨rfl, Nat.le_refl _, by omega, by simp, .inr ⟨w.heap.size + 1 + 1, 0, rfl, by simp, fun i x hi => ?_⟩⟩
        cases i with
        | succ i => simp at hi
        | zero =>
          simp only [List.getElem?_cons_zero, Option.some.injEq] at hi
          subst hi
          exact ⟨by rw [cell_new _ _ _ _ _ (by simp)]; rfl, by rw [cell_new _ _ _ _ _ (by simp)]; rfl, by rw [cell_new _ _ _ _ _ (by simp)]; rfl, by rw [cell_new _ _ _ _ _ (by simp)]; rfl, by unfold In64; dsimp only; omega, by unfold In64; dsimp only; omega, by unfold In64; dsimp only; omega, by unfold In64; dsimp only; omega⟩
      · first
          | exact (below_drewN (((Below.refl _ _).alloc (Nat.le_refl _) _).alloc (by simp) _) _).alloc (by (try simp); omega) _
          | exact below_drewN ((((Below.refl _ _).alloc (Nat.le_refl _) _).alloc (by simp) _).alloc (by (try simp); omega) _) _
          | (repeat (first | exact Below.refl _ _ | apply below_drewN | (refine Below.alloc ?_ (by (try simp); omega) _)))

end Go.Proofs.Ytcncfljpbbpaoaa.rg
