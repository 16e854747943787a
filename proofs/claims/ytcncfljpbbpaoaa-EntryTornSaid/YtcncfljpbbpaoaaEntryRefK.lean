/-
  Layer 46: the contract of the document's 'Read', of a kind that is none.
-/
import Derived.Test.YtcncfljpbbpaoaaEntryRefs
namespace Go.Proofs.Ytcncfljpbbpaoaa.en
open Go.ChangeShapes Go.WideShapes Go.ChangeAt Go.RowKit
open bs
set_option linter.unusedVariables false

set_option maxRecDepth 100000 in
set_option maxHeartbeats 2000000 in
theorem ref_kind (a : Option Addr) (n c : Nat) (l : List Int) (i : Nat) (w : World) (h : Bytes w a n c l) (hn : n ≤ 4611686018427387904) (hi : i + 4 ≤ n) (h0 : 1 ≤ sz (l.drop i)) (h1 : sz (l.drop i) ≤ 1025) (h2 : 4 + sz (l.drop i) + 32 ≤ (n : Int) - i) (h3 : isK ((l.drop i).getD 4 0) = false) :
    Calls Try.prog 35 #[.slice a n c, .int .i64 i] w (RPost l i w) := by
  have hlen := h.len
  subst hlen
  have hcap := h.cap; have hmost := h.most
  have hbs := (tail_bytes h i (by omega)).all
  have hb0 := hbs.getD 0; have hb1 := hbs.getD 1; have hb2 := hbs.getD 2; have hb3 := hbs.getD 3; have hb4 := hbs.getD 4
  have hE : rdE l i = 23 := by
    unfold rdE
    rw [if_neg (by omega), if_neg (by omega), Int.toNat_natCast]
    rw [if_neg (by omega), if_neg (by omega), if_neg (by omega), if_neg (by rw [h3]; simp)]
  obtain ⟨b, off, rfl, hcell⟩ := h.at'.resolve_left (by omega)
  have hd : ∀ j, (l.drop i).getD j 0 = l.getD (i + j) 0 := fun j => by rw [List.getD_eq_getElem?_getD, List.getD_eq_getElem?_getD, List.getElem?_drop]
  have hc' : ∀ j, i + j < l.length → w.cell? ⟨b, off + (i + j), none⟩ = some (.int .u8 ((l.drop i).getD j 0)) := fun j hj => by rw [hcell (i + j) hj, hd]
  have e0 := hc' 0 (by omega)
  have e1 := hc' 1 (by omega)
  have e2 := hc' 2 (by omega)
  have e3 := hc' 3 (by omega)
  have e4 := hc' 4 (by omega)
  rw [Nat.add_zero] at e0
  have HE := Lib.hid hE
  have hS : sz (l.drop i) = four ((l.drop i).getD 0 0) ((l.drop i).getD 1 0) ((l.drop i).getD 2 0) ((l.drop i).getD 3 0) := rfl
  generalize (l.drop i).getD 0 0 = q0 at e0 hb0 hS
  generalize (l.drop i).getD 1 0 = q1 at e1 hb1 hS
  generalize (l.drop i).getD 2 0 = q2 at e2 hb2 hS
  generalize (l.drop i).getD 3 0 = q3 at e3 hb3 hS
  generalize (l.drop i).getD 4 0 = q4 at e4 hb4 h3
  have HS := Lib.hid hS
  have d0 : decide ((i : Int) < 0) = false := decide_eq_false (by omega)
  have d1 : decide ((l.length : Int) < (i : Int)) = false := decide_eq_false (by omega)
  have d2 : ¬ (l.length : Int) - i < 4 := by omega
  have hcw : ∀ (o o2 : Obj) (p : Addr) (v : Value), w.cell? p = some v → ((w.alloc o).alloc o2).cell? p = some v := fun o o2 p v h => by rw [(((Below.refl w.heap.size w).alloc (Nat.le_refl _) o).alloc (by simp) o2).cell (World.block_lt_of_cell? w _ h)]; exact h
  have a0 := hcw (.cells #[.int .i64 0, .slice none 0 0] 48) (.cells #[.int .i64 0, .slice none 0 0] 48) _ _ e0
  have a1 := hcw (.cells #[.int .i64 0, .slice none 0 0] 48) (.cells #[.int .i64 0, .slice none 0 0] 48) _ _ e1
  have a2 := hcw (.cells #[.int .i64 0, .slice none 0 0] 48) (.cells #[.int .i64 0, .slice none 0 0] 48) _ _ e2
  have a3 := hcw (.cells #[.int .i64 0, .slice none 0 0] 48) (.cells #[.int .i64 0, .slice none 0 0] 48) _ _ e3
  have a4 := hcw (.cells #[.int .i64 0, .slice none 0 0] 48) (.cells #[.int .i64 0, .slice none 0 0] 48) _ _ e4
  obtain ⟨p0, p1⟩ := hb0
  obtain ⟨r0, r1⟩ := hb1
  obtain ⟨s0, s1⟩ := hb2
  obtain ⟨t0, t1⟩ := hb3
  obtain ⟨u0, u1⟩ := hb4
  have j4 : ((i : Int) + 4).toNat = i + 4 := by omega
  have hq : q4 < 1 ∨ 3 < q4 := by unfold isK at h3; simp only [decide_eq_false_iff_not] at h3; omega
  have j0 : ((i : Int) + 0).toNat = i := by omega
  have j1 : ((i : Int) + 1).toNat = i + 1 := by omega
  have j2 : ((i : Int) + 2).toNat = i + 2 := by omega
  have j3 : ((i : Int) + 3).toNat = i + 3 := by omega
  clear h hbs hE hd hcell hc' hS hcw h3
  go_enter Try.func35, Try.ntmps35
  go_wp2_with fail
  go_loop [9, 10] (fun n i => JRel q0 q1 q2 q3 n i) (fun _ i => (4 - intOf i).toNat)
  case atStart => exact .inl ⟨rfl, rfl⟩
  case round =>
    have hr := hrel
    unfold JRel at hr
    clear hrel
    rcases hr with ⟨rfl, rfl⟩ | ⟨rfl, rfl⟩ | ⟨rfl, rfl⟩ | ⟨rfl, rfl⟩ | ⟨rfl, rfl⟩
    · go_wp2
      go_round
      case rel => exact .inr (.inl ⟨rfl, rfl⟩)
      case measure => simp [intOf]
    · go_wp2
      go_round
      case rel => exact .inr (.inr (.inl ⟨rfl, rfl⟩))
      case measure => simp [intOf]
    · go_wp2
      go_round
      case rel => exact .inr (.inr (.inr (.inl ⟨rfl, rfl⟩)))
      case measure => simp [intOf]
    · go_wp2
      go_round
      case rel => exact .inr (.inr (.inr (.inr ⟨rfl, rfl⟩)))
      case measure => simp [intOf]
    · have hS0 : 0 ≤ sz (l.drop i) := by rw [HS.out]; unfold four; omega
      have hS1 : sz (l.drop i) ≤ 4294967295 := by rw [HS.out]; unfold four; omega
      rw [← HS.out]
      clear e0 e1 e2 e3 a0 a1 a2 a3 HS p0 p1 r0 r1 s0 s1 t0 t1 j0 j1 j2 j3
      generalize sz (l.drop i) = S at *
      have z0 : (S == 0) = false := by rw [beq_eq_false_iff_ne]; omega
      have z1 : ¬ 1025 < S := by omega
      have z2 : ¬ (l.length : Int) - i < 4 + S + 32 := by omega
      by_cases hk : q4 < 1
      · go_wp2
        refine bodyPost_ret (v := .tuple #[.agg #[.int .i64 0, .slice none 0 0], .slice (some ⟨w.heap.size + 1 + 1, 0, none⟩) 0 0, .int .i64 0, .int .i64 23]) (by simp [results, Try.results35, go_sem]) rfl ?_
        refine ⟨?_, 0, 0, none, some ⟨w.heap.size + 1 + 1, 0, none⟩, 0, 0, 0, 0, [], [], by rw [HE.out], OwnB.nil _ _ _, ?_, fun _ => ⟨rfl, rfl, rfl, rfl⟩, fun h => by rw [HE.out] at h; omega⟩
        · repeat refine Below.setCell ?_ (by simp) _
          exact below3 _ _ _ _
        · exact own2 _ _ _
      · have hk3 : 3 < q4 := by omega
        go_wp2
        refine bodyPost_ret (v := .tuple #[.agg #[.int .i64 0, .slice none 0 0], .slice (some ⟨w.heap.size + 1 + 1, 0, none⟩) 0 0, .int .i64 0, .int .i64 23]) (by simp [results, Try.results35, go_sem]) rfl ?_
        refine ⟨?_, 0, 0, none, some ⟨w.heap.size + 1 + 1, 0, none⟩, 0, 0, 0, 0, [], [], by rw [HE.out], OwnB.nil _ _ _, ?_, fun _ => ⟨rfl, rfl, rfl, rfl⟩, fun h => by rw [HE.out] at h; omega⟩
        · repeat refine Below.setCell ?_ (by simp) _
          exact below3 _ _ _ _
        · exact own2 _ _ _

end Go.Proofs.Ytcncfljpbbpaoaa.en
