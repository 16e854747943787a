/-
  Layer 46: the contract of the document's 'Read', of what can be read.
-/
import Derived.Test.YtcncfljpbbpaoaaEntryRefs
import Derived.Test.YtcncfljpbbpaoaaEntryReadOk
import Derived.Deep.AppendLies
namespace Go.Proofs.Ytcncfljpbbpaoaa.en
open Go.ChangeShapes Go.WideShapes Go.ChangeAt Go.RowKit
open bs
set_option linter.unusedVariables false

abbrev eobj : Obj := .cells #[.int .i64 0, .slice none 0 0] 48
abbrev nobj : Obj := .cells #[] 5
theorem own_nw (W : World) : OwnB (W.alloc nobj) W.heap.size 5 (some ⟨W.heap.size, 0, none⟩) 0 0 [] := by
  simpa using OwnB.made W W.heap.size 5 [] #[] rfl (Nat.le_refl _) (by simp [maxLen]) (by simp [AllB])
theorem own_da (W : World) : OwnB (W.drew.alloc nobj) W.heap.size 5 (some ⟨W.heap.size, 0, none⟩) 0 0 [] := own_nw W.drew
theorem own_ad (W : World) : OwnB (W.alloc nobj).drew W.heap.size 5 (some ⟨W.heap.size, 0, none⟩) 0 0 [] := (own_nw W).drew
theorem own_dao (W : World) (o : Obj) : OwnB ((W.drew.alloc nobj).alloc o) W.heap.size 5 (some ⟨W.heap.size, 0, none⟩) 0 0 [] := (own_da W).alloc o
theorem own_aod (W : World) (o : Obj) : OwnB ((W.alloc nobj).alloc o).drew W.heap.size 5 (some ⟨W.heap.size, 0, none⟩) 0 0 [] := ((own_nw W).alloc o).drew
theorem own_doa (W : World) (o : Obj) : OwnB ((W.drew.alloc o).alloc nobj) W.heap.size 5 (some ⟨W.heap.size + 1, 0, none⟩) 0 0 [] := by
  have h := (own_nw (W.drew.alloc o)).mono (base' := W.heap.size) (by simp)
  have e : (W.drew.alloc o).heap.size = W.heap.size + 1 := by simp
  rw [e] at h
  exact h
theorem own_oad (W : World) (o : Obj) : OwnB ((W.alloc o).alloc nobj).drew W.heap.size 5 (some ⟨W.heap.size + 1, 0, none⟩) 0 0 [] := by
  have h := (own_nw (W.alloc o)).mono (base' := W.heap.size) (by simp)
  have e : (W.alloc o).heap.size = W.heap.size + 1 := by simp
  rw [e] at h
  exact h.drew
theorem kb1 (W : World) (o : Obj) : Below W.heap.size W (W.alloc o).drew := Below.drew ((Below.refl _ _).alloc (Nat.le_refl _) o)
theorem kb2 (W : World) (o p : Obj) : Below W.heap.size W ((W.alloc o).alloc p).drew := Below.drew (((Below.refl _ _).alloc (Nat.le_refl _) o).alloc (by simp) p)
theorem farC (W V : World) (hg : ((W.alloc nobj).alloc eobj).drew.grownBy V (Value.ownBlock (.slice (some ⟨W.heap.size, 0, none⟩) 0 0))) :
    V.cell? ⟨W.heap.size + 1, 0, none⟩ = some (.int .i64 0) ∧ V.cell? ⟨W.heap.size + 1, 1, none⟩ = some (.slice none 0 0) ∧ V.frozen? ⟨W.heap.size + 1, 0, none⟩ = false ∧ V.frozen? ⟨W.heap.size + 1, 1, none⟩ = false ∧ V.heap[W.heap.size + 1]? = some eobj := by
  have hl : W.heap.size + 1 < ((W.alloc nobj).alloc eobj).drew.heap.size := by simp
  have hne : some (W.heap.size + 1) ≠ Value.ownBlock (.slice (some ⟨W.heap.size, 0, none⟩) 0 0) := by simp [Value.ownBlock]
  refine ⟨?_, ?_, ?_, ?_, ?_⟩
  · rw [hg.cell_far ⟨W.heap.size + 1, 0, none⟩ hl hne]; simp
  · rw [hg.cell_far ⟨W.heap.size + 1, 1, none⟩ hl hne]; simp
  · rw [hg.frozen_far ⟨W.heap.size + 1, 0, none⟩ hl hne]; simp
  · rw [hg.frozen_far ⟨W.heap.size + 1, 1, none⟩ hl hne]; simp
  · have e : (W.alloc nobj).heap.size = W.heap.size + 1 := by simp
    rw [hg.block _ hl hne, ← e]; exact heap_alloc_new (W.alloc nobj) eobj
theorem farB (W V : World) (hg : ((W.alloc eobj).alloc nobj).drew.grownBy V (Value.ownBlock (.slice (some ⟨W.heap.size + 1, 0, none⟩) 0 0))) :
    V.cell? ⟨W.heap.size, 0, none⟩ = some (.int .i64 0) ∧ V.cell? ⟨W.heap.size, 1, none⟩ = some (.slice none 0 0) ∧ V.frozen? ⟨W.heap.size, 0, none⟩ = false ∧ V.frozen? ⟨W.heap.size, 1, none⟩ = false ∧ V.heap[W.heap.size]? = some eobj := by
  have hl : W.heap.size < ((W.alloc eobj).alloc nobj).drew.heap.size := by simp; omega
  have hne : some W.heap.size ≠ Value.ownBlock (.slice (some ⟨W.heap.size + 1, 0, none⟩) 0 0) := by simp [Value.ownBlock]
  have hc : ∀ j, ((W.alloc eobj).alloc nobj).drew.cell? ⟨W.heap.size, j, none⟩ = (W.alloc eobj).cell? ⟨W.heap.size, j, none⟩ := fun j => (kb1 (W.alloc eobj) nobj).cell (p := ⟨W.heap.size, j, none⟩) (by simp)
  have hf : ∀ j, ((W.alloc eobj).alloc nobj).drew.frozen? ⟨W.heap.size, j, none⟩ = (W.alloc eobj).frozen? ⟨W.heap.size, j, none⟩ := fun j => (kb1 (W.alloc eobj) nobj).frozen (p := ⟨W.heap.size, j, none⟩) (by simp)
  refine ⟨?_, ?_, ?_, ?_, ?_⟩
  · rw [hg.cell_far ⟨W.heap.size, 0, none⟩ hl hne, hc]; simp
  · rw [hg.cell_far ⟨W.heap.size, 1, none⟩ hl hne, hc]; simp
  · rw [hg.frozen_far ⟨W.heap.size, 0, none⟩ hl hne, hf]; simp
  · rw [hg.frozen_far ⟨W.heap.size, 1, none⟩ hl hne, hf]; simp
  · rw [hg.block _ hl hne, (kb1 (W.alloc eobj) nobj).block _ (by simp)]; exact heap_alloc_new W eobj
theorem stay2 {W V : World} {b o g : Nat} {v u0 u1 : Value} (hb : b < W.heap.size) (hg : W.heap.size ≤ g) (h : V.cell? ⟨b, o, none⟩ = some v) (p0 p1 : Nat) :
    ((V.setCell ⟨g, p0, none⟩ u0).setCell ⟨g, p1, none⟩ u1).cell? ⟨b, o, none⟩ = some v := by
  rw [World.cell?_setCell_far _ _ _ _ (fun e => by simp at e; omega), World.cell?_setCell_far _ _ _ _ (fun e => by simp at e; omega)]; exact h
/-- Behind the entry's making: its block, its body, what is below. -/
structure MidW (W V : World) (g : Nat) (q : Int) (a : Option Addr) (n c : Nat) (body : List Int) : Prop where
  e0 : V.cell? ⟨g, 0, none⟩ = some (.int .i64 q)
  e1 : V.cell? ⟨g, 1, none⟩ = some (.slice a n c)
  below : Below W.heap.size W V
  own : OwnB V W.heap.size 5 a n c body
  ge : W.heap.size ≤ g
theorem midA {W V : World} {q : Int} {a : Option Addr} {n c : Nat} {body : List Int} (hB : Below W.heap.size W V) (ho : OwnB V W.heap.size 5 a n c body) :
    MidW W (V.alloc (.cells #[.int .i64 q, .slice a n c] 48)) V.heap.size q a n c body :=
  ⟨by simp, by simp, hB.alloc hB.size _, ho.alloc _, hB.size⟩
theorem midS {W V : World} {q : Int} {g : Nat} {a : Option Addr} {n c : Nat} {body : List Int} (hB : Below W.heap.size W V) (ho : OwnB V W.heap.size 5 a n c body) (hg : W.heap.size ≤ g)
    (x0 : V.cell? ⟨g, 0, none⟩ = some (.int .i64 0)) (x1 : V.cell? ⟨g, 1, none⟩ = some (.slice none 0 0)) (xb : V.heap[g]? = some eobj) :
    MidW W ((V.setCell ⟨g, 0, none⟩ (.int .i64 q)).setCell ⟨g, 1, none⟩ (.slice a n c)) g q a n c body := by
  have hne : Value.ownBlock (.slice a n c) ≠ some g := by
    rcases ho.own.2 with ⟨hv, _⟩ | ⟨g', cap, cur, hv, _, hh, _⟩
    · rw [hv]; simp [Value.ownBlock]
    · rw [hv]
      simp only [Value.ownBlock, ne_eq, Option.some.injEq]
      rintro rfl
      rw [xb] at hh
      simp [eobj] at hh
  have n01 : (⟨g, 1, none⟩ : Addr) ≠ ⟨g, 0, none⟩ := by simp
  have n10 : (⟨g, 0, none⟩ : Addr) ≠ ⟨g, 1, none⟩ := by simp
  refine ⟨?_, ?_, (hB.setCell hg _).setCell hg _, ⟨ownsRow_setCell_other (ownsRow_setCell_other ho.own hne _) hne _, ho.all⟩, hg⟩
  · exact (World.cell?_setCell_other _ _ _ _ n01).trans (World.cell?_setCell_same _ _ _ x0)
  · exact World.cell?_setCell_same _ _ _ ((World.cell?_setCell_other _ _ _ _ n10).trans x1)

set_option maxRecDepth 100000 in
set_option maxHeartbeats 2000000 in
theorem ref_ok (a : Option Addr) (n c : Nat) (l : List Int) (i : Nat) (w : World) (h : Bytes w a n c l) (hn : n ≤ 4611686018427387904) (hi : i + 4 ≤ n) (h0 : 1 ≤ sz (l.drop i)) (h1 : sz (l.drop i) ≤ 1025) (h2 : 4 + sz (l.drop i) + 32 ≤ (n : Int) - i) (h3 : isK ((l.drop i).getD 4 0) = true) :
    Calls Try.prog 35 #[.slice a n c, .int .i64 i] w (RPost l i w) := by
  have hlen := h.len
  subst hlen
  have hcap := h.cap; have hmost := h.most
  have hbs := (tail_bytes h i (by omega)).all
  have hb0 := hbs.getD 0; have hb1 := hbs.getD 1; have hb2 := hbs.getD 2; have hb3 := hbs.getD 3; have hb4 := hbs.getD 4
  have hE : rdE l i = 0 := by
    unfold rdE
    rw [if_neg (by omega), if_neg (by omega), Int.toNat_natCast]
    rw [if_neg (by omega), if_neg (by omega), if_neg (by omega), if_pos h3]
  obtain ⟨b, off, rfl, hcell⟩ := h.at'.resolve_left (by omega)
  have hd : ∀ j, (l.drop i).getD j 0 = l.getD (i + j) 0 := fun j => by rw [List.getD_eq_getElem?_getD, List.getD_eq_getElem?_getD, List.getElem?_drop]
  have hc' : ∀ j, i + j < l.length → w.cell? ⟨b, off + (i + j), none⟩ = some (.int .u8 ((l.drop i).getD j 0)) := fun j hj => by rw [hcell (i + j) hj, hd]
  have e0 := hc' 0 (by omega)
  have e1 := hc' 1 (by omega)
  have e2 := hc' 2 (by omega)
  have e3 := hc' 3 (by omega)
  have e4 := hc' 4 (by omega)
  rw [Nat.add_zero] at e0
  have HE := Lib.hid hE
  have hS : sz (l.drop i) = four ((l.drop i).getD 0 0) ((l.drop i).getD 1 0) ((l.drop i).getD 2 0) ((l.drop i).getD 3 0) := rfl
  generalize (l.drop i).getD 0 0 = q0 at e0 hb0 hS
  generalize (l.drop i).getD 1 0 = q1 at e1 hb1 hS
  generalize (l.drop i).getD 2 0 = q2 at e2 hb2 hS
  generalize (l.drop i).getD 3 0 = q3 at e3 hb3 hS
  generalize hq4 : (l.drop i).getD 4 0 = q4 at e4 hb4 h3
  have HQ4 := Lib.hid hq4; clear hq4
  have HS := Lib.hid hS
  have HH := Lib.hid h
  have d0 : decide ((i : Int) < 0) = false := decide_eq_false (by omega)
  have d1 : decide ((l.length : Int) < (i : Int)) = false := decide_eq_false (by omega)
  have d2 : ¬ (l.length : Int) - i < 4 := by omega
  have hcw : ∀ (o o2 : Obj) (p : Addr) (v : Value), w.cell? p = some v → ((w.alloc o).alloc o2).cell? p = some v := fun o o2 p v h => by rw [(((Below.refl w.heap.size w).alloc (Nat.le_refl _) o).alloc (by simp) o2).cell (World.block_lt_of_cell? w _ h)]; exact h
  have a0 := hcw (.cells #[.int .i64 0, .slice none 0 0] 48) (.cells #[.int .i64 0, .slice none 0 0] 48) _ _ e0
  have a1 := hcw (.cells #[.int .i64 0, .slice none 0 0] 48) (.cells #[.int .i64 0, .slice none 0 0] 48) _ _ e1
  have a2 := hcw (.cells #[.int .i64 0, .slice none 0 0] 48) (.cells #[.int .i64 0, .slice none 0 0] 48) _ _ e2
  have a3 := hcw (.cells #[.int .i64 0, .slice none 0 0] 48) (.cells #[.int .i64 0, .slice none 0 0] 48) _ _ e3
  have a4 := hcw (.cells #[.int .i64 0, .slice none 0 0] 48) (.cells #[.int .i64 0, .slice none 0 0] 48) _ _ e4
  obtain ⟨p0, p1⟩ := hb0
  obtain ⟨r0, r1⟩ := hb1
  obtain ⟨s0, s1⟩ := hb2
  obtain ⟨t0, t1⟩ := hb3
  obtain ⟨u0, u1⟩ := hb4
  have j4 : ((i : Int) + 4).toNat = i + 4 := by omega
  have hq : 1 ≤ q4 ∧ q4 ≤ 3 := by unfold isK at h3; simpa using h3
  have j0 : ((i : Int) + 0).toNat = i := by omega
  have j1 : ((i : Int) + 1).toNat = i + 1 := by omega
  have j2 : ((i : Int) + 2).toNat = i + 2 := by omega
  have j3 : ((i : Int) + 3).toNat = i + 3 := by omega
  clear h hbs hE hd hcell hc' hS hcw h3
  go_enter Try.func35, Try.ntmps35
  go_wp2_with fail
  go_loop [9, 10] (fun n i => JRel q0 q1 q2 q3 n i) (fun _ i => (4 - intOf i).toNat)
  case atStart => exact .inl ⟨rfl, rfl⟩
  case round =>
    have hr := hrel
    unfold JRel at hr
    clear hrel
    rcases hr with ⟨rfl, rfl⟩ | ⟨rfl, rfl⟩ | ⟨rfl, rfl⟩ | ⟨rfl, rfl⟩ | ⟨rfl, rfl⟩
    · go_wp2
      go_round
      case rel => exact .inr (.inl ⟨rfl, rfl⟩)
      case measure => simp [intOf]
    · go_wp2
      go_round
      case rel => exact .inr (.inr (.inl ⟨rfl, rfl⟩))
      case measure => simp [intOf]
    · go_wp2
      go_round
      case rel => exact .inr (.inr (.inr (.inl ⟨rfl, rfl⟩)))
      case measure => simp [intOf]
    · go_wp2
      go_round
      case rel => exact .inr (.inr (.inr (.inr ⟨rfl, rfl⟩)))
      case measure => simp [intOf]
    · have hS0 : 0 ≤ sz (l.drop i) := by rw [HS.out]; unfold four; omega
      have hS1 : sz (l.drop i) ≤ 4294967295 := by rw [HS.out]; unfold four; omega
      rw [← HS.out]
      clear e0 e1 e2 e3 e4 a0 a1 a2 a3 HS p0 p1 r0 r1 s0 s1 t0 t1 j0 j1 j2 j3
      obtain ⟨S, hSz⟩ : ∃ S, sz (l.drop i) = S := ⟨_, rfl⟩
      rw [hSz] at h0 h1 h2 hS0 hS1 ⊢
      have HSz := Lib.hid hSz; clear hSz
      have z0 : (S == 0) = false := by rw [beq_eq_false_iff_ne]; omega
      have z1 : ¬ 1025 < S := by omega
      have z2 : ¬ (l.length : Int) - i < 4 + S + 32 := by omega
      obtain ⟨q41, q42⟩ := hq
      obtain ⟨s, rfl⟩ : ∃ s : Nat, S = s := ⟨S.toNat, by omega⟩
      go_wp2_with fail
      have hW : Below w.heap.size w ((w.alloc eobj).alloc eobj) := ((Below.refl _ _).alloc (Nat.le_refl _) _).alloc (by simp) _
      have r0 : ((w.alloc eobj).alloc eobj).cell? ⟨w.heap.size, 0, none⟩ = some (.int .i64 0) := by simp
      have r1 : ((w.alloc eobj).alloc eobj).cell? ⟨w.heap.size, 1, none⟩ = some (.slice none 0 0) := by simp
      have f0 : ((w.alloc eobj).alloc eobj).frozen? ⟨w.heap.size, 0, none⟩ = false := by simp
      have f1 : ((w.alloc eobj).alloc eobj).frozen? ⟨w.heap.size, 1, none⟩ = false := by simp
      have hlt : w.heap.size < ((w.alloc eobj).alloc eobj).heap.size := by simp; omega
      dsimp only [eobj] at a4 hW r0 r1 f0 f1 hlt
      generalize (w.alloc (.cells #[.int .i64 0, .slice none 0 0] 48)).alloc (.cells #[.int .i64 0, .slice none 0 0] 48) = W at a4 hW r0 r1 f0 f1 hlt ⊢
      have HBW := Lib.hid hW
      have HB1 := Lib.hid ((sub_bytes HH.out (i + 5) (s - 1) (by omega)).below HBW.out)
      have HB2 := Lib.hid ((sub_bytes HH.out (i + 4 + s) 32 (by omega)).below HBW.out)
      have HR0 := Lib.hid r0; have HR1 := Lib.hid r1; have HF0 := Lib.hid f0; have HF1 := Lib.hid f1
      have hkeep : ∀ V : World, Below W.heap.size W V → V.cell? ⟨b, off + (i + 4), none⟩ = some (.int .u8 q4) := fun V h => by rw [h.cell (World.block_lt_of_cell? W _ a4)]; exact a4
      have Keep := Lib.hid hkeep
      have HA4 := Lib.hid a4
      clear hW r0 r1 f0 f1 hkeep
      have z5 : IntKind.i64.wrap ((i : Int) + 4) = (i : Int) + 4 := IntWalk.i64_in _ (by omega)
      have z6 : IntKind.i64.wrap ((i : Int) + 5) = (i : Int) + 5 := IntWalk.i64_in _ (by omega)
      have z7 : IntKind.i64.wrap ((i : Int) + 4 + s) = (i : Int) + 4 + s := IntWalk.i64_in _ (by omega)
      have y0 : ((i : Int) + 5).toNat = i + 5 := by omega
      have y1 : ((i : Int) + 4 + s).toNat = i + 4 + s := by omega
      have y2 : (0 : Int) ≤ (i : Int) + 4 := by omega
      have y3 : (i : Int) + 4 < (l.length : Int) := by omega
      have y5 : (0 : Int) ≤ (i : Int) + 5 := by omega
      have y6 : (i : Int) + 5 ≤ (i : Int) + 4 + s := by omega
      have y7 : (i : Int) + 4 + s ≤ (c : Int) := by omega
      have y8 : ¬ c = i + 5 := by omega
      have y9 : i + 4 + s - (i + 5) = s - 1 := by omega
      have hn1 : 0 + (s - 1) ≤ 140737488355328 := by omega
      have z8 : IntKind.i64.wrap q4 = q4 := IntWalk.i64_in _ (by omega)
      have hbW := World.block_lt_of_cell? W _ a4
      go_region_held_law (fun V => V.cell? ⟨b, off + (i + 4), none⟩ = some (.int .u8 q4))
        (first | exact HA4.out | exact Keep.out _ (kb1 W _) | exact Keep.out _ (kb2 W _ _) | exact x9 | exact Keep.out _ (hB.out.alloc hB.out.size _) | exact stay2 hbW (Nat.le_refl _) x9 _ _ | exact stay2 hbW (Nat.le_succ _) x9 _ _)
        (((first
            | refine step_append_b byteT (by rfl) _ _ (by rfl) W.heap.size (by rfl) (own_ad W) (by rfl) (HB1.out.below (kb1 W _)) hn1 (kb1 W _).size ?_
            | refine step_append_b byteT (by rfl) _ _ (by rfl) W.heap.size (by rfl) (own_aod W _) (by rfl) (HB1.out.below (kb2 W _ _)) hn1 (kb2 W _ _).size ?_
            | refine step_append_b byteT (by rfl) _ _ (by rfl) W.heap.size (by rfl) (own_oad W _) (by rfl) (HB1.out.below (kb2 W _ _)) hn1 (kb2 W _ _).size ?_); intro a9 c9 w9 ho9 hb9 hg9; (first | (have hs9 := Nat.le_trans (kb1 W _).size hb9.size; have HQ := hg9; have hB : Hid (Below W.heap.size W w9) := (kb1 W _).trans hb9) | (have hF := farC W _ hg9; obtain ⟨x0, x1, x2, x3, xb⟩ := hF; have XB := Lib.hid xb; clear xb; have hB : Hid (Below W.heap.size W w9) := (kb2 W _ _).trans hb9) | (have hF := farB W _ hg9; obtain ⟨x0, x1, x2, x3, xb⟩ := hF; have XB := Lib.hid xb; clear xb; have hB : Hid (Below W.heap.size W w9) := (kb2 W _ _).trans hb9)); have x9 := Keep.out _ hB.out; have HO9 := Lib.hid ho9; clear ho9))
      all_goals
        rw [Nat.zero_add, List.nil_append] at HO9
        have HE9 := HO9.out.cases
        clear a4 hb9 hg9 x9 z5 z6 z7 y0 y1 y2 y3 y5 y6 y7 y8 y9 z8
      all_goals first
        | (have hM := midA (q := q4) hB.out HO9.out; have HM := Lib.hid hM; clear hM HO9 HQ hs9 HE9 hB; generalize w9.alloc (.cells #[.int .i64 q4, .slice a9 (s - 1) c9] 48) = V at HM ⊢; generalize w9.heap.size = g at HM ⊢)
        | (have hM := midS (q := q4) hB.out HO9.out (Nat.le_add_right _ 1) x0 x1 XB.out; have HM := Lib.hid hM; clear hM HO9 x0 x1 x2 x3 HE9 hB XB; generalize (w9.setCell ⟨W.heap.size + 1, 0, none⟩ (.int .i64 q4)).setCell ⟨W.heap.size + 1, 1, none⟩ (.slice a9 (s - 1) c9) = V at HM ⊢; generalize W.heap.size + 1 = g at HM ⊢)
        | (have hM := midS (q := q4) hB.out HO9.out (Nat.le_refl _) x0 x1 XB.out; have HM := Lib.hid hM; clear hM HO9 x0 x1 x2 x3 HE9 hB XB; generalize (w9.setCell ⟨W.heap.size, 0, none⟩ (.int .i64 q4)).setCell ⟨W.heap.size, 1, none⟩ (.slice a9 (s - 1) c9) = V at HM ⊢; obtain ⟨g, hgW⟩ : ∃ g, W.heap.size = g := ⟨_, rfl⟩; rw [hgW] at HM ⊢; have HGW := Lib.hid hgW; clear hgW)
      all_goals
        have HT := Lib.hid (HB2.out.below HM.out.below)
        have z5 : IntKind.i64.wrap ((i : Int) + 4) = (i : Int) + 4 := IntWalk.i64_in _ (by omega)
        have z6 : IntKind.i64.wrap ((i : Int) + 36) = (i : Int) + 36 := IntWalk.i64_in _ (by omega)
        have z7 : IntKind.i64.wrap ((i : Int) + 4 + s) = (i : Int) + 4 + s := IntWalk.i64_in _ (by omega)
        have z8 : IntKind.i64.wrap ((i : Int) + 36 + s) = (i : Int) + 36 + s := IntWalk.i64_in _ (by omega)
        have y0 : ((i : Int) + 4 + s).toNat = i + 4 + s := by omega
        have y1 : ((i : Int) + 36 + s).toNat = i + 36 + s := by omega
        have y2 : (0 : Int) ≤ (i : Int) + 4 + s := by omega
        have y3 : (0 : Int) ≤ (i : Int) + 36 + s := by omega
        have y5 : (i : Int) + 4 + s ≤ (i : Int) + 36 + s := by omega
        have y6 : (i : Int) + 36 + s ≤ (c : Int) := by omega
        have y8 : ¬ c = i + 4 + s := by omega
        have y9 : i + 36 + s - (i + 4 + s) = 32 := by omega
        have e0 := HM.out.e0
        have e1 := HM.out.e1
        have hgV := World.block_lt_of_cell? V _ e0
        have HE0 := Lib.hid e0; have HE1 := Lib.hid e1
        have hne : g ≠ w.heap.size := Nat.ne_of_gt (Nat.lt_of_lt_of_le hlt HM.out.ge)
        have hn2 : 0 + 32 ≤ 140737488355328 := by omega
        have hlV : w.heap.size < V.heap.size := Nat.lt_of_lt_of_le hlt HM.out.below.size
        have Rc : Hid (∀ X : World, Below V.heap.size V X → X.cell? ⟨w.heap.size, 0, none⟩ = some (.int .i64 0) ∧ X.cell? ⟨w.heap.size, 1, none⟩ = some (.slice none 0 0) ∧ X.frozen? ⟨w.heap.size, 0, none⟩ = false ∧ X.frozen? ⟨w.heap.size, 1, none⟩ = false) := fun X hX => by
          refine ⟨?_, ?_, ?_, ?_⟩
          · rw [hX.cell (p := ⟨w.heap.size, 0, none⟩) hlV, HM.out.below.cell (p := ⟨w.heap.size, 0, none⟩) hlt]; exact HR0.out
          · rw [hX.cell (p := ⟨w.heap.size, 1, none⟩) hlV, HM.out.below.cell (p := ⟨w.heap.size, 1, none⟩) hlt]; exact HR1.out
          · rw [hX.frozen (p := ⟨w.heap.size, 0, none⟩) hlV, HM.out.below.frozen (p := ⟨w.heap.size, 0, none⟩) hlt]; exact HF0.out
          · rw [hX.frozen (p := ⟨w.heap.size, 1, none⟩) hlV, HM.out.below.frozen (p := ⟨w.heap.size, 1, none⟩) hlt]; exact HF1.out
        have Ke : Hid (∀ X : World, Below V.heap.size V X → X.cell? ⟨g, 0, none⟩ = some (.int .i64 q4) ∧ X.cell? ⟨g, 1, none⟩ = some (.slice a9 (s - 1) c9)) := fun X hX => by
          refine ⟨?_, ?_⟩
          · rw [hX.cell (p := ⟨g, 0, none⟩) hgV]; exact HE0.out
          · rw [hX.cell (p := ⟨g, 1, none⟩) hgV]; exact HE1.out
        clear hgV e0 e1
        go_wp2_with fail
        go_region_held_law (fun X => X.cell? ⟨g, 0, none⟩ = some (.int .i64 q4) ∧ X.cell? ⟨g, 1, none⟩ = some (.slice a9 (s - 1) c9))
          (first | exact ⟨HE0.out, HE1.out⟩ | exact Ke.out _ (kb1 V _) | exact x9 | exact far2 hne x9.1 x9.2)
          ((refine step_append_b byteT (by rfl) _ _ (by rfl) V.heap.size (by rfl) (own_ad V) (by rfl) (HT.out.below (kb1 V _)) hn2 (kb1 V _).size ?_; intro a10 c10 w10 ho10 hb10 hg10; have hB : Hid (Below V.heap.size V w10) := (kb1 V _).trans hb10; have x9 := Ke.out _ hB.out; obtain ⟨x0, x1, x2, x3⟩ := Rc.out _ hB.out; have HO10 := Lib.hid ho10; clear ho10))
        rw [Nat.zero_add, List.nil_append] at HO10
        have HBF := Lib.hid (HBW.out.trans ((HM.out.below.mono HBW.out.size).trans (hB.out.mono (Nat.le_of_lt hlV))))
        have hlW : w.heap.size ≤ W.heap.size := HBW.out.size
        have HBody := Lib.hid (OwnB.far (OwnB.far (HM.out.own.below hB.out) ⟨w.heap.size, 0, none⟩ hlt (.int .i64 q4)) ⟨w.heap.size, 1, none⟩ hlt (.slice a9 (s - 1) c9))
        have HTag := Lib.hid (OwnB.far (OwnB.far HO10.out ⟨w.heap.size, 0, none⟩ hlV (.int .i64 q4)) ⟨w.heap.size, 1, none⟩ hlV (.slice a9 (s - 1) c9))
        clear hg10 hb10
        go_wp2
        refine bodyPost_ret (v := .tuple #[.agg #[.int .i64 q4, .slice a9 (s - 1) c9], .slice a10 32 c10, .int .i64 ((i : Int) + 36 + s), .int .i64 0]) (by simp [results, Try.results35, go_sem, x0, x1]) rfl ?_
        refine ⟨(HBF.out.setCell (Nat.le_refl _) _).setCell (Nat.le_refl _) _, q4, _, a9, a10, s - 1, c9, 32, c10, _, _, by rw [HE.out], HBody.out.mono hlW, HTag.out.mono (Nat.le_of_lt hlV), fun h => absurd HE.out h, fun _ => ?_⟩
        rw [Int.toNat_natCast, HSz.out, Int.toNat_natCast, List.drop_drop, List.drop_drop]
        exact ⟨HQ4.out.symm, rfl, by rw [Nat.add_assoc], by omega⟩
end Go.Proofs.Ytcncfljpbbpaoaa.en
