/-
  Layer 46: the contract of the program's 'Read'.
-/
import Derived.Test.YtcncfljpbbpaoaaEntryBits
import Derived.Test.YtcncfljpbbpaoaaCut
import Derived.Deep.RegionHeldLaw
namespace Go.Proofs.Ytcncfljpbbpaoaa.en
open Go.ChangeShapes Go.WideShapes Go.ChangeAt Go.RowKit
open bs
set_option linter.unusedVariables false

/-- What a frame that begins with these bytes tells: its payload's length. -/
def sz (m : List Int) : Int := four (m.getD 0 0) (m.getD 1 0) (m.getD 2 0) (m.getD 3 0)
/-- What is wrong with the bytes from a place on, as a number. -/
def rdE (l : List Int) (p : Int) : Int :=
  if p < 0 ∨ (l.length : Int) < p then 13
  else if (l.length : Int) - p < 4 then 1
  else if sz (l.drop p.toNat) = 0 then 2
  else if 1025 < sz (l.drop p.toNat) then 3
  else if (l.length : Int) - p < 4 + sz (l.drop p.toNat) + 32 then 1
  else if isK ((l.drop p.toNat).getD 4 0) then 0
  else 23
/-- The four results, whose parts the call made itself. -/
def RPost (l : List Int) (p : Int) (w : World) (e : Ending) (w' : World) : Prop :=
  Below w.heap.size w w' ∧ ∃ (k to : Int) (a1 a2 : Option Addr) (n1 c1 n2 c2 : Nat) (body tag : List Int),
    e = .returned (.tuple #[.agg #[.int .i64 k, .slice a1 n1 c1], .slice a2 n2 c2, .int .i64 to, .int .i64 (rdE l p)]) ∧ OwnB w' w.heap.size 5 a1 n1 c1 body ∧ OwnB w' w.heap.size 5 a2 n2 c2 tag ∧
    (rdE l p ≠ 0 → k = 0 ∧ body = [] ∧ tag = [] ∧ to = 0) ∧
    (rdE l p = 0 → k = (l.drop p.toNat).getD 4 0 ∧ body = ((l.drop p.toNat).drop 5).take ((sz (l.drop p.toNat)).toNat - 1) ∧ tag = ((l.drop p.toNat).drop (4 + (sz (l.drop p.toNat)).toNat)).take 32 ∧ to = p + 36 + sz (l.drop p.toNat))

set_option maxRecDepth 100000 in
set_option maxHeartbeats 2000000 in
theorem read_range (a : Option Addr) (n c : Nat) (l : List Int) (p : Int) (w : World) (h : Bytes w a n c l) (p0 : -9223372036854775808 ≤ p) (p1 : p ≤ 9223372036854775807) (hp : p < 0 ∨ (n : Int) < p) :
    Calls Try.prog 33 #[.slice a n c, .int .i64 p] w (RPost l p w) := by
  have hlen := h.len
  subst hlen
  have hcap := h.cap; have hmost := h.most
  have hE : rdE l p = 13 := by unfold rdE; rw [if_pos hp]
  have HE := Lib.hid hE
  clear h hE
  by_cases h0 : p < 0
  · clear hp
    go_enter Try.func33, Try.ntmps33
    go_wp2
    refine bodyPost_ret (v := .tuple #[.agg #[.int .i64 0, .slice none 0 0], .slice none 0 0, .int .i64 0, .int .i64 13]) (by simp [results, Try.results33, go_sem]) rfl ?_
    refine ⟨?_, 0, 0, none, none, 0, 0, 0, 0, [], [], by rw [HE.out], OwnB.nil _ _ _, OwnB.nil _ _ _, fun _ => ⟨rfl, rfl, rfl, rfl⟩, fun h => by rw [HE.out] at h; omega⟩
    repeat refine Below.setCell ?_ (by simp) _
    exact (Below.refl _ _).alloc (Nat.le_refl _) _
  · have h1 : (l.length : Int) < p := by omega
    have d0 : decide (p < 0) = false := decide_eq_false h0
    clear hp
    go_enter Try.func33, Try.ntmps33
    go_wp2
    refine bodyPost_ret (v := .tuple #[.agg #[.int .i64 0, .slice none 0 0], .slice none 0 0, .int .i64 0, .int .i64 13]) (by simp [results, Try.results33, go_sem]) rfl ?_
    refine ⟨?_, 0, 0, none, none, 0, 0, 0, 0, [], [], by rw [HE.out], OwnB.nil _ _ _, OwnB.nil _ _ _, fun _ => ⟨rfl, rfl, rfl, rfl⟩, fun h => by rw [HE.out] at h; omega⟩
    repeat refine Below.setCell ?_ (by simp) _
    exact (Below.refl _ _).alloc (Nat.le_refl _) _

set_option maxRecDepth 100000 in
set_option maxHeartbeats 2000000 in
theorem read_zero (a : Option Addr) (n c : Nat) (l : List Int) (i : Nat) (w : World) (h : Bytes w a n c l) (hn : n ≤ 4611686018427387904) (hi : i + 4 ≤ n) (h0 : sz (l.drop i) = 0) :
    Calls Try.prog 33 #[.slice a n c, .int .i64 i] w (RPost l i w) := by
  have hlen := h.len
  subst hlen
  have hcap := h.cap; have hmost := h.most
  have hbs := (tail_bytes h i (by omega)).all
  have hb0 := hbs.getD 0; have hb1 := hbs.getD 1; have hb2 := hbs.getD 2; have hb3 := hbs.getD 3; have hb4 := hbs.getD 4
  have hE : rdE l i = 2 := by
    unfold rdE
    rw [if_neg (by omega), if_neg (by omega), Int.toNat_natCast]
    rw [if_pos h0]
  obtain ⟨b, off, rfl, hcell⟩ := h.at'.resolve_left (by omega)
  have hd : ∀ j, (l.drop i).getD j 0 = l.getD (i + j) 0 := fun j => by rw [List.getD_eq_getElem?_getD, List.getD_eq_getElem?_getD, List.getElem?_drop]
  have hc' : ∀ j, i + j < l.length → w.cell? ⟨b, off + i + j, none⟩ = some (.int .u8 ((l.drop i).getD j 0)) := fun j hj => by rw [Nat.add_assoc, hcell (i + j) hj, hd]
  have e0 := hc' 0 (by omega)
  have e1 := hc' 1 (by omega)
  have e2 := hc' 2 (by omega)
  have e3 := hc' 3 (by omega)

  rw [Nat.add_zero] at e0
  have HE := Lib.hid hE
  have hS : sz (l.drop i) = four ((l.drop i).getD 0 0) ((l.drop i).getD 1 0) ((l.drop i).getD 2 0) ((l.drop i).getD 3 0) := rfl
  have HC := Lib.hid hc'
  have HH := Lib.hid h
  generalize (l.drop i).getD 0 0 = q0 at e0 hb0 hS
  generalize (l.drop i).getD 1 0 = q1 at e1 hb1 hS
  generalize (l.drop i).getD 2 0 = q2 at e2 hb2 hS
  generalize (l.drop i).getD 3 0 = q3 at e3 hb3 hS
  have HS := Lib.hid hS
  have d0 : decide ((i : Int) < 0) = false := decide_eq_false (by omega)
  have d1 : decide ((l.length : Int) < (i : Int)) = false := decide_eq_false (by omega)
  have x1 : ¬ c = i := by omega
  have d2 : ¬ ((l.length - i : Nat) : Int) < 4 := by omega
  have harr : ∀ W : World, (Instr.arrayAt 93 (.slice (some ⟨b, off + i, none⟩) (l.length - i) (c - i))).run Try.prog W = .ok (.pointer (some ⟨b, off + i, none⟩)) W := fun W => by
    have : ¬ l.length - i < 4 := by omega
    simp [Instr.arrayAt, Try.underlying93, go_sem, this]
  have hcw : ∀ (o : Obj) (p : Addr) (v : Value), w.cell? p = some v → (w.alloc o).cell? p = some v := fun o p v h => by rw [((Below.refl w.heap.size w).alloc (Nat.le_refl _) o).cell (World.block_lt_of_cell? w _ h)]; exact h
  have a0 := hcw (.cells #[.int .i64 0, .slice none 0 0] 48) _ _ e0
  have a1 := hcw (.cells #[.int .i64 0, .slice none 0 0] 48) _ _ e1
  have a2 := hcw (.cells #[.int .i64 0, .slice none 0 0] 48) _ _ e2
  have a3 := hcw (.cells #[.int .i64 0, .slice none 0 0] 48) _ _ e3
  have HCW := Lib.hid hcw
  clear h hbs hE hd hcell hc' hS hcw hb4
  go_enter Try.func33, Try.ntmps33
  go_wp2_with fail
  refine (joined_any q0 q1 q2 q3 _ hb0 hb1 hb2 hb3).mono ?_
  rintro e w1 ⟨rfl, hb⟩
  have HB := Lib.hid ((((Below.refl w.heap.size w).alloc (Nat.le_refl _) _)).trans (hb.mono (by simp)))
  have f0 : w1.frozen? ⟨w.heap.size, 0, none⟩ = false := by rw [hb.frozen (p := ⟨w.heap.size, 0, none⟩) (by simp)]; simp
  have k0 : w1.cell? ⟨w.heap.size, 0, none⟩ = some (.int .i64 0) := by rw [hb.cell (p := ⟨w.heap.size, 0, none⟩) (by simp)]; simp
  have f1 : w1.frozen? ⟨w.heap.size, 1, none⟩ = false := by rw [hb.frozen (p := ⟨w.heap.size, 1, none⟩) (by simp)]; simp
  have k1 : w1.cell? ⟨w.heap.size, 1, none⟩ = some (.slice none 0 0) := by rw [hb.cell (p := ⟨w.heap.size, 1, none⟩) (by simp)]; simp
  have hS0 : 0 ≤ sz (l.drop i) := by rw [HS.out]; unfold four; omega
  have hS1 : sz (l.drop i) ≤ 4294967295 := by rw [HS.out]; unfold four; omega
  rw [← HS.out]
  clear hb e0 e1 e2 e3 a0 a1 a2 a3 harr HS hb0 hb1 hb2 hb3
  generalize sz (l.drop i) = S at *
  subst h0
  go_wp2
  refine bodyPost_ret (v := .tuple #[.agg #[.int .i64 0, .slice none 0 0], .slice none 0 0, .int .i64 0, .int .i64 2]) (by simp [results, Try.results33, go_sem, k0, k1, f0, f1]) rfl ?_
  refine ⟨?_, 0, 0, none, none, 0, 0, 0, 0, [], [], by rw [HE.out], OwnB.nil _ _ _, OwnB.nil _ _ _, fun _ => ⟨rfl, rfl, rfl, rfl⟩, fun h => by rw [HE.out] at h; omega⟩
  repeat refine Below.setCell ?_ (by simp) _
  exact HB.out

set_option maxRecDepth 100000 in
set_option maxHeartbeats 2000000 in
theorem read_long (a : Option Addr) (n c : Nat) (l : List Int) (i : Nat) (w : World) (h : Bytes w a n c l) (hn : n ≤ 4611686018427387904) (hi : i + 4 ≤ n) (h0 : 1025 < sz (l.drop i)) :
    Calls Try.prog 33 #[.slice a n c, .int .i64 i] w (RPost l i w) := by
  have hlen := h.len
  subst hlen
  have hcap := h.cap; have hmost := h.most
  have hbs := (tail_bytes h i (by omega)).all
  have hb0 := hbs.getD 0; have hb1 := hbs.getD 1; have hb2 := hbs.getD 2; have hb3 := hbs.getD 3; have hb4 := hbs.getD 4
  have hE : rdE l i = 3 := by
    unfold rdE
    rw [if_neg (by omega), if_neg (by omega), Int.toNat_natCast]
    rw [if_neg (by omega), if_pos h0]
  obtain ⟨b, off, rfl, hcell⟩ := h.at'.resolve_left (by omega)
  have hd : ∀ j, (l.drop i).getD j 0 = l.getD (i + j) 0 := fun j => by rw [List.getD_eq_getElem?_getD, List.getD_eq_getElem?_getD, List.getElem?_drop]
  have hc' : ∀ j, i + j < l.length → w.cell? ⟨b, off + i + j, none⟩ = some (.int .u8 ((l.drop i).getD j 0)) := fun j hj => by rw [Nat.add_assoc, hcell (i + j) hj, hd]
  have e0 := hc' 0 (by omega)
  have e1 := hc' 1 (by omega)
  have e2 := hc' 2 (by omega)
  have e3 := hc' 3 (by omega)

  rw [Nat.add_zero] at e0
  have HE := Lib.hid hE
  have hS : sz (l.drop i) = four ((l.drop i).getD 0 0) ((l.drop i).getD 1 0) ((l.drop i).getD 2 0) ((l.drop i).getD 3 0) := rfl
  have HC := Lib.hid hc'
  have HH := Lib.hid h
  generalize (l.drop i).getD 0 0 = q0 at e0 hb0 hS
  generalize (l.drop i).getD 1 0 = q1 at e1 hb1 hS
  generalize (l.drop i).getD 2 0 = q2 at e2 hb2 hS
  generalize (l.drop i).getD 3 0 = q3 at e3 hb3 hS
  have HS := Lib.hid hS
  have d0 : decide ((i : Int) < 0) = false := decide_eq_false (by omega)
  have d1 : decide ((l.length : Int) < (i : Int)) = false := decide_eq_false (by omega)
  have x1 : ¬ c = i := by omega
  have d2 : ¬ ((l.length - i : Nat) : Int) < 4 := by omega
  have harr : ∀ W : World, (Instr.arrayAt 93 (.slice (some ⟨b, off + i, none⟩) (l.length - i) (c - i))).run Try.prog W = .ok (.pointer (some ⟨b, off + i, none⟩)) W := fun W => by
    have : ¬ l.length - i < 4 := by omega
    simp [Instr.arrayAt, Try.underlying93, go_sem, this]
  have hcw : ∀ (o : Obj) (p : Addr) (v : Value), w.cell? p = some v → (w.alloc o).cell? p = some v := fun o p v h => by rw [((Below.refl w.heap.size w).alloc (Nat.le_refl _) o).cell (World.block_lt_of_cell? w _ h)]; exact h
  have a0 := hcw (.cells #[.int .i64 0, .slice none 0 0] 48) _ _ e0
  have a1 := hcw (.cells #[.int .i64 0, .slice none 0 0] 48) _ _ e1
  have a2 := hcw (.cells #[.int .i64 0, .slice none 0 0] 48) _ _ e2
  have a3 := hcw (.cells #[.int .i64 0, .slice none 0 0] 48) _ _ e3
  have HCW := Lib.hid hcw
  clear h hbs hE hd hcell hc' hS hcw hb4
  go_enter Try.func33, Try.ntmps33
  go_wp2_with fail
  refine (joined_any q0 q1 q2 q3 _ hb0 hb1 hb2 hb3).mono ?_
  rintro e w1 ⟨rfl, hb⟩
  have HB := Lib.hid ((((Below.refl w.heap.size w).alloc (Nat.le_refl _) _)).trans (hb.mono (by simp)))
  have f0 : w1.frozen? ⟨w.heap.size, 0, none⟩ = false := by rw [hb.frozen (p := ⟨w.heap.size, 0, none⟩) (by simp)]; simp
  have k0 : w1.cell? ⟨w.heap.size, 0, none⟩ = some (.int .i64 0) := by rw [hb.cell (p := ⟨w.heap.size, 0, none⟩) (by simp)]; simp
  have f1 : w1.frozen? ⟨w.heap.size, 1, none⟩ = false := by rw [hb.frozen (p := ⟨w.heap.size, 1, none⟩) (by simp)]; simp
  have k1 : w1.cell? ⟨w.heap.size, 1, none⟩ = some (.slice none 0 0) := by rw [hb.cell (p := ⟨w.heap.size, 1, none⟩) (by simp)]; simp
  have hS0 : 0 ≤ sz (l.drop i) := by rw [HS.out]; unfold four; omega
  have hS1 : sz (l.drop i) ≤ 4294967295 := by rw [HS.out]; unfold four; omega
  rw [← HS.out]
  clear hb e0 e1 e2 e3 a0 a1 a2 a3 harr HS hb0 hb1 hb2 hb3
  generalize sz (l.drop i) = S at *
  have z0 : (S == 0) = false := by rw [beq_eq_false_iff_ne]; omega
  go_wp2
  refine bodyPost_ret (v := .tuple #[.agg #[.int .i64 0, .slice none 0 0], .slice none 0 0, .int .i64 0, .int .i64 3]) (by simp [results, Try.results33, go_sem, k0, k1, f0, f1]) rfl ?_
  refine ⟨?_, 0, 0, none, none, 0, 0, 0, 0, [], [], by rw [HE.out], OwnB.nil _ _ _, OwnB.nil _ _ _, fun _ => ⟨rfl, rfl, rfl, rfl⟩, fun h => by rw [HE.out] at h; omega⟩
  repeat refine Below.setCell ?_ (by simp) _
  exact HB.out

set_option maxRecDepth 100000 in
set_option maxHeartbeats 2000000 in
theorem read_cut (a : Option Addr) (n c : Nat) (l : List Int) (i : Nat) (w : World) (h : Bytes w a n c l) (hn : n ≤ 4611686018427387904) (hi : i + 4 ≤ n) (h0 : 1 ≤ sz (l.drop i)) (h1 : sz (l.drop i) ≤ 1025) (h2 : (n : Int) - i < 4 + sz (l.drop i) + 32) :
    Calls Try.prog 33 #[.slice a n c, .int .i64 i] w (RPost l i w) := by
  have hlen := h.len
  subst hlen
  have hcap := h.cap; have hmost := h.most
  have hbs := (tail_bytes h i (by omega)).all
  have hb0 := hbs.getD 0; have hb1 := hbs.getD 1; have hb2 := hbs.getD 2; have hb3 := hbs.getD 3; have hb4 := hbs.getD 4
  have hE : rdE l i = 1 := by
    unfold rdE
    rw [if_neg (by omega), if_neg (by omega), Int.toNat_natCast]
    rw [if_neg (by omega), if_neg (by omega), if_pos h2]
  obtain ⟨b, off, rfl, hcell⟩ := h.at'.resolve_left (by omega)
  have hd : ∀ j, (l.drop i).getD j 0 = l.getD (i + j) 0 := fun j => by rw [List.getD_eq_getElem?_getD, List.getD_eq_getElem?_getD, List.getElem?_drop]
  have hc' : ∀ j, i + j < l.length → w.cell? ⟨b, off + i + j, none⟩ = some (.int .u8 ((l.drop i).getD j 0)) := fun j hj => by rw [Nat.add_assoc, hcell (i + j) hj, hd]
  have e0 := hc' 0 (by omega)
  have e1 := hc' 1 (by omega)
  have e2 := hc' 2 (by omega)
  have e3 := hc' 3 (by omega)

  rw [Nat.add_zero] at e0
  have HE := Lib.hid hE
  have hS : sz (l.drop i) = four ((l.drop i).getD 0 0) ((l.drop i).getD 1 0) ((l.drop i).getD 2 0) ((l.drop i).getD 3 0) := rfl
  have HC := Lib.hid hc'
  have HH := Lib.hid h
  generalize (l.drop i).getD 0 0 = q0 at e0 hb0 hS
  generalize (l.drop i).getD 1 0 = q1 at e1 hb1 hS
  generalize (l.drop i).getD 2 0 = q2 at e2 hb2 hS
  generalize (l.drop i).getD 3 0 = q3 at e3 hb3 hS
  have HS := Lib.hid hS
  have d0 : decide ((i : Int) < 0) = false := decide_eq_false (by omega)
  have d1 : decide ((l.length : Int) < (i : Int)) = false := decide_eq_false (by omega)
  have x1 : ¬ c = i := by omega
  have d2 : ¬ ((l.length - i : Nat) : Int) < 4 := by omega
  have harr : ∀ W : World, (Instr.arrayAt 93 (.slice (some ⟨b, off + i, none⟩) (l.length - i) (c - i))).run Try.prog W = .ok (.pointer (some ⟨b, off + i, none⟩)) W := fun W => by
    have : ¬ l.length - i < 4 := by omega
    simp [Instr.arrayAt, Try.underlying93, go_sem, this]
  have hcw : ∀ (o : Obj) (p : Addr) (v : Value), w.cell? p = some v → (w.alloc o).cell? p = some v := fun o p v h => by rw [((Below.refl w.heap.size w).alloc (Nat.le_refl _) o).cell (World.block_lt_of_cell? w _ h)]; exact h
  have a0 := hcw (.cells #[.int .i64 0, .slice none 0 0] 48) _ _ e0
  have a1 := hcw (.cells #[.int .i64 0, .slice none 0 0] 48) _ _ e1
  have a2 := hcw (.cells #[.int .i64 0, .slice none 0 0] 48) _ _ e2
  have a3 := hcw (.cells #[.int .i64 0, .slice none 0 0] 48) _ _ e3
  have HCW := Lib.hid hcw
  clear h hbs hE hd hcell hc' hS hcw hb4
  go_enter Try.func33, Try.ntmps33
  go_wp2_with fail
  refine (joined_any q0 q1 q2 q3 _ hb0 hb1 hb2 hb3).mono ?_
  rintro e w1 ⟨rfl, hb⟩
  have HB := Lib.hid ((((Below.refl w.heap.size w).alloc (Nat.le_refl _) _)).trans (hb.mono (by simp)))
  have f0 : w1.frozen? ⟨w.heap.size, 0, none⟩ = false := by rw [hb.frozen (p := ⟨w.heap.size, 0, none⟩) (by simp)]; simp
  have k0 : w1.cell? ⟨w.heap.size, 0, none⟩ = some (.int .i64 0) := by rw [hb.cell (p := ⟨w.heap.size, 0, none⟩) (by simp)]; simp
  have f1 : w1.frozen? ⟨w.heap.size, 1, none⟩ = false := by rw [hb.frozen (p := ⟨w.heap.size, 1, none⟩) (by simp)]; simp
  have k1 : w1.cell? ⟨w.heap.size, 1, none⟩ = some (.slice none 0 0) := by rw [hb.cell (p := ⟨w.heap.size, 1, none⟩) (by simp)]; simp
  have hS0 : 0 ≤ sz (l.drop i) := by rw [HS.out]; unfold four; omega
  have hS1 : sz (l.drop i) ≤ 4294967295 := by rw [HS.out]; unfold four; omega
  rw [← HS.out]
  clear hb e0 e1 e2 e3 a0 a1 a2 a3 harr HS hb0 hb1 hb2 hb3
  generalize sz (l.drop i) = S at *
  have z0 : (S == 0) = false := by rw [beq_eq_false_iff_ne]; omega
  have z1 : ¬ 1025 < S := by omega
  have z2 : ((l.length - i : Nat) : Int) < 4 + S + 32 := by omega
  go_wp2
  refine bodyPost_ret (v := .tuple #[.agg #[.int .i64 0, .slice none 0 0], .slice none 0 0, .int .i64 0, .int .i64 1]) (by simp [results, Try.results33, go_sem, k0, k1, f0, f1]) rfl ?_
  refine ⟨?_, 0, 0, none, none, 0, 0, 0, 0, [], [], by rw [HE.out], OwnB.nil _ _ _, OwnB.nil _ _ _, fun _ => ⟨rfl, rfl, rfl, rfl⟩, fun h => by rw [HE.out] at h; omega⟩
  repeat refine Below.setCell ?_ (by simp) _
  exact HB.out

set_option maxRecDepth 100000 in
set_option maxHeartbeats 2000000 in
theorem read_kind (a : Option Addr) (n c : Nat) (l : List Int) (i : Nat) (w : World) (h : Bytes w a n c l) (hn : n ≤ 4611686018427387904) (hi : i + 4 ≤ n) (h0 : 1 ≤ sz (l.drop i)) (h1 : sz (l.drop i) ≤ 1025) (h2 : 4 + sz (l.drop i) + 32 ≤ (n : Int) - i) (h3 : isK ((l.drop i).getD 4 0) = false) :
    Calls Try.prog 33 #[.slice a n c, .int .i64 i] w (RPost l i w) := by
  have hlen := h.len
  subst hlen
  have hcap := h.cap; have hmost := h.most
  have hbs := (tail_bytes h i (by omega)).all
  have hb0 := hbs.getD 0; have hb1 := hbs.getD 1; have hb2 := hbs.getD 2; have hb3 := hbs.getD 3; have hb4 := hbs.getD 4
  have hE : rdE l i = 23 := by
    unfold rdE
    rw [if_neg (by omega), if_neg (by omega), Int.toNat_natCast]
    rw [if_neg (by omega), if_neg (by omega), if_neg (by omega), if_neg (by rw [h3]; simp)]
  obtain ⟨b, off, rfl, hcell⟩ := h.at'.resolve_left (by omega)
  have hd : ∀ j, (l.drop i).getD j 0 = l.getD (i + j) 0 := fun j => by rw [List.getD_eq_getElem?_getD, List.getD_eq_getElem?_getD, List.getElem?_drop]
  have hc' : ∀ j, i + j < l.length → w.cell? ⟨b, off + i + j, none⟩ = some (.int .u8 ((l.drop i).getD j 0)) := fun j hj => by rw [Nat.add_assoc, hcell (i + j) hj, hd]
  have e0 := hc' 0 (by omega)
  have e1 := hc' 1 (by omega)
  have e2 := hc' 2 (by omega)
  have e3 := hc' 3 (by omega)
  have e4 := hc' 4 (by omega)

  rw [Nat.add_zero] at e0
  have HE := Lib.hid hE
  have hS : sz (l.drop i) = four ((l.drop i).getD 0 0) ((l.drop i).getD 1 0) ((l.drop i).getD 2 0) ((l.drop i).getD 3 0) := rfl
  have HC := Lib.hid hc'
  have HH := Lib.hid h
  generalize (l.drop i).getD 0 0 = q0 at e0 hb0 hS
  generalize (l.drop i).getD 1 0 = q1 at e1 hb1 hS
  generalize (l.drop i).getD 2 0 = q2 at e2 hb2 hS
  generalize (l.drop i).getD 3 0 = q3 at e3 hb3 hS
  generalize (l.drop i).getD 4 0 = q4 at e4 hb4 h3
  have HS := Lib.hid hS
  have H3 := Lib.hid h3
  have d0 : decide ((i : Int) < 0) = false := decide_eq_false (by omega)
  have d1 : decide ((l.length : Int) < (i : Int)) = false := decide_eq_false (by omega)
  have x1 : ¬ c = i := by omega
  have d2 : ¬ ((l.length - i : Nat) : Int) < 4 := by omega
  have harr : ∀ W : World, (Instr.arrayAt 93 (.slice (some ⟨b, off + i, none⟩) (l.length - i) (c - i))).run Try.prog W = .ok (.pointer (some ⟨b, off + i, none⟩)) W := fun W => by
    have : ¬ l.length - i < 4 := by omega
    simp [Instr.arrayAt, Try.underlying93, go_sem, this]
  have hcw : ∀ (o : Obj) (p : Addr) (v : Value), w.cell? p = some v → (w.alloc o).cell? p = some v := fun o p v h => by rw [((Below.refl w.heap.size w).alloc (Nat.le_refl _) o).cell (World.block_lt_of_cell? w _ h)]; exact h
  have a0 := hcw (.cells #[.int .i64 0, .slice none 0 0] 48) _ _ e0
  have a1 := hcw (.cells #[.int .i64 0, .slice none 0 0] 48) _ _ e1
  have a2 := hcw (.cells #[.int .i64 0, .slice none 0 0] 48) _ _ e2
  have a3 := hcw (.cells #[.int .i64 0, .slice none 0 0] 48) _ _ e3
  have a4 := hcw (.cells #[.int .i64 0, .slice none 0 0] 48) _ _ e4
  have HCW := Lib.hid hcw
  clear h hbs hE hd hcell hc' hS hcw h3
  go_enter Try.func33, Try.ntmps33
  go_wp2_with fail
  refine (joined_any q0 q1 q2 q3 _ hb0 hb1 hb2 hb3).mono ?_
  rintro e w1 ⟨rfl, hb⟩
  have HB := Lib.hid ((((Below.refl w.heap.size w).alloc (Nat.le_refl _) _)).trans (hb.mono (by simp)))
  have f0 : w1.frozen? ⟨w.heap.size, 0, none⟩ = false := by rw [hb.frozen (p := ⟨w.heap.size, 0, none⟩) (by simp)]; simp
  have k0 : w1.cell? ⟨w.heap.size, 0, none⟩ = some (.int .i64 0) := by rw [hb.cell (p := ⟨w.heap.size, 0, none⟩) (by simp)]; simp
  have f1 : w1.frozen? ⟨w.heap.size, 1, none⟩ = false := by rw [hb.frozen (p := ⟨w.heap.size, 1, none⟩) (by simp)]; simp
  have k1 : w1.cell? ⟨w.heap.size, 1, none⟩ = some (.slice none 0 0) := by rw [hb.cell (p := ⟨w.heap.size, 1, none⟩) (by simp)]; simp
  have g4 : w1.cell? ⟨b, off + i + 4, none⟩ = some (.int .u8 q4) := by rw [hb.cell (World.block_lt_of_cell? _ _ a4)]; exact a4
  have hS0 : 0 ≤ sz (l.drop i) := by rw [HS.out]; unfold four; omega
  have hS1 : sz (l.drop i) ≤ 4294967295 := by rw [HS.out]; unfold four; omega
  rw [← HS.out]
  clear hb e0 e1 e2 e3 e4 a0 a1 a2 a3 a4 harr HS hb0 hb1 hb2 hb3
  generalize sz (l.drop i) = S at *
  have z0 : (S == 0) = false := by rw [beq_eq_false_iff_ne]; omega
  have z1 : ¬ 1025 < S := by omega
  have z2 : ¬ ((l.length - i : Nat) : Int) < 4 + S + 32 := by omega
  have z3 : (4 : Int) < ((l.length - i : Nat) : Int) := by omega
  obtain ⟨q40, q41⟩ := hb4
  go_wp2_with fail
  refine (kind_any q4 _).mono ?_
  rintro e w' ⟨rfl, rfl⟩
  rw [H3.out]
  go_wp2
  refine bodyPost_ret (v := .tuple #[.agg #[.int .i64 0, .slice none 0 0], .slice none 0 0, .int .i64 0, .int .i64 23]) (by simp [results, Try.results33, go_sem, k0, k1, f0, f1]) rfl ?_
  refine ⟨?_, 0, 0, none, none, 0, 0, 0, 0, [], [], by rw [HE.out], OwnB.nil _ _ _, OwnB.nil _ _ _, fun _ => ⟨rfl, rfl, rfl, rfl⟩, fun h => by rw [HE.out] at h; omega⟩
  repeat refine Below.setCell ?_ (by simp) _
  exact HB.out

set_option maxRecDepth 100000 in
set_option maxHeartbeats 2000000 in
theorem read_short (a : Option Addr) (n c : Nat) (l : List Int) (i : Nat) (w : World) (h : Bytes w a n c l) (hn : n ≤ 4611686018427387904) (hi : i ≤ n) (h4 : n < i + 4) :
    Calls Try.prog 33 #[.slice a n c, .int .i64 i] w (RPost l i w) := by
  have hlen := h.len
  subst hlen
  have hcap := h.cap; have hmost := h.most
  have hE : rdE l i = 1 := by
    unfold rdE
    rw [if_neg (by omega), if_pos (by omega)]
  have HE := Lib.hid hE
  have hsl := fun W => slice_tail a l.length c i (i : Int) rfl hi hcap hmost h.nil W
  have d0 : decide ((i : Int) < 0) = false := decide_eq_false (by omega)
  have d1 : decide ((l.length : Int) < (i : Int)) = false := decide_eq_false (by omega)
  have d2 : ((l.length - i : Nat) : Int) < 4 := by omega
  clear h hE
  go_enter Try.func33, Try.ntmps33
  go_wp2
  refine bodyPost_ret (v := .tuple #[.agg #[.int .i64 0, .slice none 0 0], .slice none 0 0, .int .i64 0, .int .i64 1]) (by simp [results, Try.results33, go_sem]) rfl ?_
  refine ⟨?_, 0, 0, none, none, 0, 0, 0, 0, [], [], by rw [HE.out], OwnB.nil _ _ _, OwnB.nil _ _ _, fun _ => ⟨rfl, rfl, rfl, rfl⟩, fun h => by rw [HE.out] at h; omega⟩
  repeat refine Below.setCell ?_ (by simp) _
  exact (Below.refl _ _).alloc (Nat.le_refl _) _

end Go.Proofs.Ytcncfljpbbpaoaa.en
