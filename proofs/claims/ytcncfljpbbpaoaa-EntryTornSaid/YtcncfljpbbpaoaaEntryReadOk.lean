/-
  Layer 46: the contract of the program's 'Read', of what can be read.
-/
import Derived.Test.YtcncfljpbbpaoaaEntryRead
import Derived.Deep.RegionHeld
import Derived.Deep.RegionHeldLaw
import Derived.IntWalk
namespace Go.Proofs.Ytcncfljpbbpaoaa.en
open Go.ChangeShapes Go.WideShapes Go.ChangeAt Go.RowKit
open bs
set_option linter.unusedVariables false

theorem _root_.Go.Proofs.Ytcncfljpbbpaoaa.bs.OwnB.far {w : World} {base e n c : Nat} {a : Option Addr} {l : List Int} (h : OwnB w base e a n c l) (p : Addr) (hp : p.block < base) (u : Value) : OwnB (w.setCell p u) base e a n c l := by
  refine ⟨ownsRow_setCell_other h.own ?_ u, h.all⟩
  rcases h.cases with ⟨rfl, rfl, rfl⟩ | ⟨g, rfl, hg, _⟩
  · simp [Value.ownBlock]
  · simp only [Value.ownBlock, ne_eq, Option.some.injEq]
    omega
theorem far2 {W : World} {g h : Nat} {v0 v1 u0 u1 : Value} (hg : g ≠ h) (h0 : W.cell? ⟨g, 0, none⟩ = some v0) (h1 : W.cell? ⟨g, 1, none⟩ = some v1) :
    ((W.setCell ⟨h, 0, none⟩ u0).setCell ⟨h, 1, none⟩ u1).cell? ⟨g, 0, none⟩ = some v0 ∧ ((W.setCell ⟨h, 0, none⟩ u0).setCell ⟨h, 1, none⟩ u1).cell? ⟨g, 1, none⟩ = some v1 := by
  constructor
  · rw [World.cell?_setCell_far _ _ _ _ (fun e => hg e.symm), World.cell?_setCell_far _ _ _ _ (fun e => hg e.symm)]; exact h0
  · rw [World.cell?_setCell_far _ _ _ _ (fun e => hg e.symm), World.cell?_setCell_far _ _ _ _ (fun e => hg e.symm)]; exact h1

set_option maxRecDepth 100000 in
set_option maxHeartbeats 2000000 in
theorem read_ok (a : Option Addr) (n c : Nat) (l : List Int) (i : Nat) (w : World) (h : Bytes w a n c l) (hn : n ≤ 4611686018427387904) (hi : i + 4 ≤ n) (h0 : 1 ≤ sz (l.drop i)) (h1 : sz (l.drop i) ≤ 1025) (h2 : 4 + sz (l.drop i) + 32 ≤ (n : Int) - i) (h3 : isK ((l.drop i).getD 4 0) = true) :
    Calls Try.prog 33 #[.slice a n c, .int .i64 i] w (RPost l i w) := by
  have hlen := h.len
  subst hlen
  have hcap := h.cap; have hmost := h.most
  have hbs := (tail_bytes h i (by omega)).all
  have hb0 := hbs.getD 0; have hb1 := hbs.getD 1; have hb2 := hbs.getD 2; have hb3 := hbs.getD 3; have hb4 := hbs.getD 4
  have hE : rdE l i = 0 := by
    unfold rdE
    rw [if_neg (by omega), if_neg (by omega), Int.toNat_natCast]
    rw [if_neg (by omega), if_neg (by omega), if_neg (by omega), if_pos h3]
  obtain ⟨b, off, rfl, hcell⟩ := h.at'.resolve_left (by omega)
  have hd : ∀ j, (l.drop i).getD j 0 = l.getD (i + j) 0 := fun j => by rw [List.getD_eq_getElem?_getD, List.getD_eq_getElem?_getD, List.getElem?_drop]
  have hc' : ∀ j, i + j < l.length → w.cell? ⟨b, off + i + j, none⟩ = some (.int .u8 ((l.drop i).getD j 0)) := fun j hj => by rw [Nat.add_assoc, hcell (i + j) hj, hd]
  have e0 := hc' 0 (by omega)
  have e1 := hc' 1 (by omega)
  have e2 := hc' 2 (by omega)
  have e3 := hc' 3 (by omega)
  have e4 := hc' 4 (by omega)

  rw [Nat.add_zero] at e0
  have HE := Lib.hid hE
  have hS : sz (l.drop i) = four ((l.drop i).getD 0 0) ((l.drop i).getD 1 0) ((l.drop i).getD 2 0) ((l.drop i).getD 3 0) := rfl
  have HC := Lib.hid hc'
  have HH := Lib.hid h
  generalize (l.drop i).getD 0 0 = q0 at e0 hb0 hS
  generalize (l.drop i).getD 1 0 = q1 at e1 hb1 hS
  generalize (l.drop i).getD 2 0 = q2 at e2 hb2 hS
  generalize (l.drop i).getD 3 0 = q3 at e3 hb3 hS
  generalize hq4 : (l.drop i).getD 4 0 = q4 at e4 hb4 h3
  have HQ4 := Lib.hid hq4; clear hq4
  have HS := Lib.hid hS
  have H3 := Lib.hid h3
  have d0 : decide ((i : Int) < 0) = false := decide_eq_false (by omega)
  have d1 : decide ((l.length : Int) < (i : Int)) = false := decide_eq_false (by omega)
  have x1 : ¬ c = i := by omega
  have d2 : ¬ ((l.length - i : Nat) : Int) < 4 := by omega
  have harr : ∀ W : World, (Instr.arrayAt 93 (.slice (some ⟨b, off + i, none⟩) (l.length - i) (c - i))).run Try.prog W = .ok (.pointer (some ⟨b, off + i, none⟩)) W := fun W => by
    have : ¬ l.length - i < 4 := by omega
    simp [Instr.arrayAt, Try.underlying93, go_sem, this]
  have hcw : ∀ (o : Obj) (p : Addr) (v : Value), w.cell? p = some v → (w.alloc o).cell? p = some v := fun o p v h => by rw [((Below.refl w.heap.size w).alloc (Nat.le_refl _) o).cell (World.block_lt_of_cell? w _ h)]; exact h
  have a0 := hcw (.cells #[.int .i64 0, .slice none 0 0] 48) _ _ e0
  have a1 := hcw (.cells #[.int .i64 0, .slice none 0 0] 48) _ _ e1
  have a2 := hcw (.cells #[.int .i64 0, .slice none 0 0] 48) _ _ e2
  have a3 := hcw (.cells #[.int .i64 0, .slice none 0 0] 48) _ _ e3
  have a4 := hcw (.cells #[.int .i64 0, .slice none 0 0] 48) _ _ e4
  have HCW := Lib.hid hcw
  clear h hbs hE hd hcell hc' hS hcw h3
  go_enter Try.func33, Try.ntmps33
  go_wp2_with fail
  refine (joined_any q0 q1 q2 q3 _ hb0 hb1 hb2 hb3).mono ?_
  rintro e w1 ⟨rfl, hb⟩
  have HB := Lib.hid ((((Below.refl w.heap.size w).alloc (Nat.le_refl _) _)).trans (hb.mono (by simp)))
  have f0 : w1.frozen? ⟨w.heap.size, 0, none⟩ = false := by rw [hb.frozen (p := ⟨w.heap.size, 0, none⟩) (by simp)]; simp
  have k0 : w1.cell? ⟨w.heap.size, 0, none⟩ = some (.int .i64 0) := by rw [hb.cell (p := ⟨w.heap.size, 0, none⟩) (by simp)]; simp
  have f1 : w1.frozen? ⟨w.heap.size, 1, none⟩ = false := by rw [hb.frozen (p := ⟨w.heap.size, 1, none⟩) (by simp)]; simp
  have k1 : w1.cell? ⟨w.heap.size, 1, none⟩ = some (.slice none 0 0) := by rw [hb.cell (p := ⟨w.heap.size, 1, none⟩) (by simp)]; simp
  have g4 : w1.cell? ⟨b, off + i + 4, none⟩ = some (.int .u8 q4) := by rw [hb.cell (World.block_lt_of_cell? _ _ a4)]; exact a4
  have hS0 : 0 ≤ sz (l.drop i) := by rw [HS.out]; unfold four; omega
  have hS1 : sz (l.drop i) ≤ 4294967295 := by rw [HS.out]; unfold four; omega
  rw [← HS.out]
  clear hb e0 e1 e2 e3 e4 a0 a1 a2 a3 a4 harr HS hb0 hb1 hb2 hb3
  obtain ⟨S, hSz⟩ : ∃ S, sz (l.drop i) = S := ⟨_, rfl⟩
  rw [hSz] at h0 h1 h2 hS0 hS1 ⊢
  have HSz := Lib.hid hSz; clear hSz
  have z0 : (S == 0) = false := by rw [beq_eq_false_iff_ne]; omega
  have z1 : ¬ 1025 < S := by omega
  have z2 : ¬ ((l.length - i : Nat) : Int) < 4 + S + 32 := by omega
  have z3 : (4 : Int) < ((l.length - i : Nat) : Int) := by omega
  obtain ⟨q40, q41⟩ := hb4
  go_wp2_with fail
  refine (kind_any q4 _).mono ?_
  rintro e w' ⟨rfl, rfl⟩
  rw [H3.out]
  obtain ⟨s, rfl⟩ : ∃ s : Nat, S = s := ⟨S.toNat, by omega⟩
  have HT := Lib.hid (show Bytes w (some ⟨b, off + i, none⟩) (l.length - i) (c - i) (l.drop i) by
    have := sub_bytes HH.out i (l.length - i) (by omega)
    rwa [List.take_of_length_le (by rw [List.length_drop]; omega)] at this)
  have HB1 := Lib.hid (sub_bytes HT.out 5 (s - 1) (by omega))
  have HB2 := Lib.hid (sub_bytes HT.out (4 + s) 32 (by omega))
  have y0 : (4 + (s : Int)).toNat = 4 + s := by omega
  have y1 : (5 : Int) ≤ 4 + (s : Int) := by omega
  have y2 : 4 + (s : Int) ≤ ((c - i : Nat) : Int) := by omega
  have y3 : ¬ c - i = 5 := by omega
  have y4 : 4 + s - 5 = s - 1 := by omega
  go_wp2_with fail
  refine (clone_any _ _ _ (((l.drop i).drop 5).take (s - 1)) _ (HB1.out.below HB.out) (by omega)).mono ?_
  rintro e w2 ⟨a2, c2, rfl, ho2, hb2⟩
  have HO2 := Lib.hid ho2
  have HBB := Lib.hid (HB.out.trans (hb2.mono HB.out.size))
  have lt1 : w.heap.size < w1.heap.size := World.block_lt_of_cell? w1 _ k0
  have k0' : w2.cell? ⟨w.heap.size, 0, none⟩ = some (.int .i64 0) := by rw [hb2.cell (p := ⟨w.heap.size, 0, none⟩) lt1]; exact k0
  have k1' : w2.cell? ⟨w.heap.size, 1, none⟩ = some (.slice none 0 0) := by rw [hb2.cell (p := ⟨w.heap.size, 1, none⟩) lt1]; exact k1
  have f0' : w2.frozen? ⟨w.heap.size, 0, none⟩ = false := by rw [hb2.frozen (p := ⟨w.heap.size, 0, none⟩) lt1]; exact f0
  have f1' : w2.frozen? ⟨w.heap.size, 1, none⟩ = false := by rw [hb2.frozen (p := ⟨w.heap.size, 1, none⟩) lt1]; exact f1
  have lt2 : w.heap.size < w2.heap.size := World.block_lt_of_cell? w2 _ k0'
  clear ho2 hb2 k0 k1 f0 f1 g4
  go_wp2_with fail
  have hW : Below w2.heap.size w2 (w2.alloc (.cells #[.int .i64 q4, .slice a2 (s - 1) c2] 48)) := (Below.refl _ _).alloc (Nat.le_refl _) _
  have m0 : (w2.alloc (.cells #[.int .i64 q4, .slice a2 (s - 1) c2] 48)).cell? ⟨w2.heap.size, 0, none⟩ = some (.int .i64 q4) := by simp
  have m1 : (w2.alloc (.cells #[.int .i64 q4, .slice a2 (s - 1) c2] 48)).cell? ⟨w2.heap.size, 1, none⟩ = some (.slice a2 (s - 1) c2) := by simp
  have hg : w2.heap.size < (w2.alloc (.cells #[.int .i64 q4, .slice a2 (s - 1) c2] 48)).heap.size := by simp
  generalize (w2.alloc (.cells #[.int .i64 q4, .slice a2 (s - 1) c2] 48)) = W0 at hW m0 m1 hg ⊢
  have HBody := Lib.hid (HO2.out.below hW)
  have HBW := Lib.hid (HBB.out.trans (hW.mono (Nat.le_of_lt lt2)))
  have r0 : W0.cell? ⟨w.heap.size, 0, none⟩ = some (.int .i64 0) := by rw [hW.cell (p := ⟨w.heap.size, 0, none⟩) lt2]; exact k0'
  have r1 : W0.cell? ⟨w.heap.size, 1, none⟩ = some (.slice none 0 0) := by rw [hW.cell (p := ⟨w.heap.size, 1, none⟩) lt2]; exact k1'
  have r2 : W0.frozen? ⟨w.heap.size, 0, none⟩ = false := by rw [hW.frozen (p := ⟨w.heap.size, 0, none⟩) lt2]; exact f0'
  have r3 : W0.frozen? ⟨w.heap.size, 1, none⟩ = false := by rw [hW.frozen (p := ⟨w.heap.size, 1, none⟩) lt2]; exact f1'
  have HTag : Hid (Bytes W0.drew (some ⟨b, off + i + (4 + s), none⟩) 32 (c - i - (4 + s)) (((l.drop i).drop (4 + s)).take 32)) := (HB2.out.below HBW.out).drewN 1
  have z0 : (4 + (s : Int) + 32).toNat = 4 + s + 32 := by omega
  have z1 : (0 : Int) ≤ 4 + (s : Int) := by omega
  have z2 : 4 + (s : Int) ≤ 4 + (s : Int) + 32 := by omega
  have z3 : 4 + (s : Int) + 32 ≤ ((c - i : Nat) : Int) := by omega
  have z4 : ¬ c - i = 4 + s := by omega
  have z5 : IntKind.i64.wrap (4 + (s : Int) + 32) = 4 + (s : Int) + 32 := IntWalk.i64_in _ (by omega)
  have z6 : IntKind.i64.wrap ((i : Int) + (4 + (s : Int))) = (i : Int) + (4 + (s : Int)) := IntWalk.i64_in _ (by omega)
  have z7 : IntKind.i64.wrap ((i : Int) + (4 + (s : Int)) + 32) = (i : Int) + (4 + (s : Int)) + 32 := IntWalk.i64_in _ (by omega)
  have z8 : 4 + s + 32 - (4 + s) = 32 := by omega
  have z9 : (0 : Int) ≤ 4 + (s : Int) + 32 := by omega
  have hlt0 : w.heap.size < W0.drew.heap.size := Nat.lt_trans lt2 hg
  have hgd : w2.heap.size < W0.drew.heap.size := hg
  have HM0 := Lib.hid m0; have HM1 := Lib.hid m1
  clear hW k0' k1' f0' f1' HO2 HBB
  go_region_held_law (fun W => W.cell? ⟨w2.heap.size, 0, none⟩ = some (.int .i64 q4) ∧ W.cell? ⟨w2.heap.size, 1, none⟩ = some (.slice a2 (s - 1) c2))
    (first | exact ⟨HM0.out, HM1.out⟩ | exact ⟨n0, n1⟩ | exact far2 (by omega) n0 n1)
    (first
      | (go_at_call 61; (with_reducible refine (clone_any _ _ _ _ _ HTag.out (by omega)).mono ?_); rintro e w3 ⟨a3, c3, rfl, ho3, hb3⟩; have n0 : w3.cell? ⟨w2.heap.size, 0, none⟩ = some (.int .i64 q4) := (by rw [hb3.cell (p := ⟨w2.heap.size, 0, none⟩) hgd]; exact HM0.out); have n1 : w3.cell? ⟨w2.heap.size, 1, none⟩ = some (.slice a2 (s - 1) c2) := (by rw [hb3.cell (p := ⟨w2.heap.size, 1, none⟩) hgd]; exact HM1.out); have u0 : w3.cell? ⟨w.heap.size, 0, none⟩ = some (.int .i64 0) := (by rw [hb3.cell (p := ⟨w.heap.size, 0, none⟩) hlt0]; exact r0); have u1 : w3.cell? ⟨w.heap.size, 1, none⟩ = some (.slice none 0 0) := (by rw [hb3.cell (p := ⟨w.heap.size, 1, none⟩) hlt0]; exact r1); have u2 : w3.frozen? ⟨w.heap.size, 0, none⟩ = false := (by rw [hb3.frozen (p := ⟨w.heap.size, 0, none⟩) hlt0]; exact r2); have u3 : w3.frozen? ⟨w.heap.size, 1, none⟩ = false := (by rw [hb3.frozen (p := ⟨w.heap.size, 1, none⟩) hlt0]; exact r3); have HO3 := Lib.hid ho3; have HB3 := Lib.hid hb3; clear ho3 hb3))
  have HBF := Lib.hid ((Below.drew HBW.out).trans (HB3.out.mono (Nat.le_of_lt hlt0)))
  have HBody3 := Lib.hid (OwnB.far (OwnB.far (HBody.out.drew.below HB3.out) ⟨w.heap.size, 0, none⟩ lt1 (.int .i64 q4)) ⟨w.heap.size, 1, none⟩ lt1 (.slice a2 (s - 1) c2))
  have HTag3 := Lib.hid (OwnB.far (OwnB.far HO3.out ⟨w.heap.size, 0, none⟩ hlt0 (.int .i64 q4)) ⟨w.heap.size, 1, none⟩ hlt0 (.slice a2 (s - 1) c2))
  go_wp2
  refine bodyPost_ret (v := .tuple #[.agg #[.int .i64 q4, .slice a2 (s - 1) c2], .slice a3 32 c3, .int .i64 ((i : Int) + (4 + (s : Int)) + 32), .int .i64 0]) (by simp [results, Try.results33, go_sem, u0, u1]) rfl ?_
  refine ⟨(HBF.out.setCell (Nat.le_refl _) _).setCell (Nat.le_refl _) _, q4, _, a2, a3, s - 1, c2, 32, c3, _, _, by rw [HE.out], HBody3.out.mono (Nat.le_of_lt lt1), HTag3.out.mono (Nat.le_of_lt hlt0), fun h => absurd HE.out h, fun _ => ?_⟩
  rw [Int.toNat_natCast, HSz.out, Int.toNat_natCast]
  exact ⟨HQ4.out.symm, rfl, rfl, by omega⟩

end Go.Proofs.Ytcncfljpbbpaoaa.en
