/-
  Layer 48: the contracts of the document's device.
-/
import Derived.Test.YtejhncdempfmjaaMDev
import Derived.Deep.RegionWith
namespace Go.Proofs.Ytejhncdempfmjaa.dv
open Go.ChangeShapes Go.WideShapes Go.ChangeAt Go.RowKit
open bs
set_option linter.unusedVariables false

theorem between_any (m : Int) (h : Nat) (w : World) (m0 : -9223372036854775808 ≤ m) (m1 : m ≤ 9223372036854775807) : Calls Try.prog 75 #[.int .i64 m, .int .i64 h] w fun e w' => e = .returned (.int .i64 (clampN m h)) ∧ w = w' := by
  rcases clamp_ways m h with ⟨g0, gk⟩ | ⟨k, rfl, g0, gk⟩ | ⟨k, rfl, g0, gk⟩
  all_goals
    rw [gk]
    clear gk
    go_enter Try.func75, Try.ntmps75
    go_wp2
    go_ret
    exact ⟨rfl, rfl⟩

/-- A device as a value. -/
abbrev rv (room s : Nat) (a : Option Addr) (n c : Nat) : Value := .agg #[.int .i64 room, .int .i64 s, .slice a n c]
/-- A slice lies where another one did, or in a new block. -/
def Lies (w w' : World) (a a' : Option Addr) : Prop := ∀ g, blockOf a' = some g → blockOf a = some g ∨ w.heap.size ≤ g ∧ g < w'.heap.size
theorem Lies.refl (w w' : World) (a : Option Addr) : Lies w w' a a := fun _ h => .inl h
/-- What a call gives: a device as a value, whose bytes lie where they did, or in a new block. -/
def RvPost (w : World) (room s : Nat) (a : Option Addr) (n : Nat) (l : List Int) (e : Ending) (w' : World) : Prop :=
  Below w.heap.size w w' ∧ ∃ a' c', e = .returned (rv room s a' n c') ∧ Bytes w' a' n c' l ∧ Lies w w' a a'

theorem first_bytes {w : World} {a n c l} (h : Bytes w a n c l) (k : Nat) (hk : k ≤ n) : Bytes w a k c (l.take k) := by
  have hl := h.len; have hc := h.cap
  refine ⟨by rw [List.length_take]; omega, by omega, h.most, fun x hx => h.all x (List.mem_of_mem_take hx), h.nil, ?_⟩
  rcases h.at' with h0 | ⟨b, off, ha, hcell⟩
  · left; omega
  · refine .inr ⟨b, off, ha, fun i hi => ?_⟩
    rw [hcell i (by omega), List.getD_eq_getElem?_getD, List.getD_eq_getElem?_getD, List.getElem?_take, if_pos hi]

set_option maxRecDepth 100000 in
set_option maxHeartbeats 400000 in
theorem rnew_any (r : Int) (w : World) (r0 : -9223372036854775808 ≤ r) (r1 : r ≤ 9223372036854775807) : Calls Try.prog 35 #[.int .i64 r] w (RvPost w (clampN r 65536) 0 none 0 []) := by
  go_enter Try.func35, Try.ntmps35
  go_wp2_with fail
  refine (between_any r 65536 _ r0 r1).mono ?_
  rintro e w' ⟨rfl, rfl⟩
  go_wp2
  refine bodyPost_ret (v := rv (clampN r 65536) 0 none 0 0) (by simp [results, Try.results35, go_sem, rv]) rfl ?_
  refine ⟨?_, none, 0, rfl, (OwnB.nil _ 0 5).bytes, Lies.refl _ _ _⟩
  repeat refine Below.setCell ?_ (by simp) _
  exact (Below.refl _ _).alloc (Nat.le_refl _) _

set_option maxRecDepth 100000 in
set_option maxHeartbeats 400000 in
theorem rsync_any (room s : Nat) (a : Option Addr) (n c : Nat) (l : List Int) (w : World) (h : Bytes w a n c l) : Calls Try.prog 77 #[rv room s a n c] w (RvPost w room n a n l) := by
  have HH := Lib.hid h; clear h
  unfold rv
  go_enter Try.func77, Try.ntmps77
  go_wp2
  refine bodyPost_ret (v := rv room n a n c) (by simp [results, Try.results77, go_sem, rv]) rfl ?_
  refine ⟨?_, a, c, rfl, HH.out.below ?_, Lies.refl _ _ _⟩
  all_goals exact ((Below.refl _ _).alloc (Nat.le_refl _) _).alloc (by simp) _

set_option maxRecDepth 100000 in
set_option maxHeartbeats 1000000 in
theorem rcut_any (room s : Nat) (a : Option Addr) (n c : Nat) (l : List Int) (m : Int) (w : World) (h : Bytes w a n c l) (hn : n ≤ 65536) (hs : s ≤ 65536) (m0 : -9223372036854775808 ≤ m) (m1 : m ≤ 9223372036854775807) :
    Calls Try.prog 74 #[rv room s a n c, .int .i64 m] w (RvPost w room (min s (clampN m n)) a (clampN m n) (l.take (clampN m n))) := by
  have hkn := clampN_le m n
  have hcap := h.cap; have hmost := h.most
  have HH := Lib.hid h; clear h
  have HF := Lib.hid (first_bytes HH.out (clampN m n) hkn)
  have hmin : clampN (s : Int) (clampN m n) = min s (clampN m n) := by
    rcases clamp_ways (s : Int) (clampN m n) with ⟨g0, gk⟩ | ⟨k, hk, g0, gk⟩ | ⟨k, hk, g0, gk⟩
    · omega
    · rw [gk]; omega
    · rw [gk]; omega
  have HMN := Lib.hid hmin; clear hmin
  unfold rv
  generalize hk : clampN m n = k at hkn HF HMN ⊢
  have HK := Lib.hid hk; clear hk
  have hkc : k ≤ c := by omega
  go_enter Try.func74, Try.ntmps74
  go_wp2_with fail
  go_region_with (go_at_call 75; refine (between_any m n _ m0 m1).mono ?_; rintro e w' ⟨rfl, rfl⟩; rw [HK.out])
  all_goals go_wp2_with fail
  all_goals refine (between_any s k _ (by omega) (by omega)).mono ?_
  all_goals rintro e w' ⟨rfl, rfl⟩
  all_goals rw [HMN.out]
  all_goals go_wp2
  all_goals refine bodyPost_ret (v := rv room (min s k) a k c) (by simp [results, Try.results74, go_sem, rv]) rfl ?_
  all_goals refine ⟨?_, a, c, rfl, HF.out.below ?_, Lies.refl _ _ _⟩
  all_goals
    repeat refine Below.setCell ?_ (by simp) _
    first
      | exact ((Below.refl _ _).alloc (Nat.le_refl _) _).alloc (by simp) _
      | exact Below.drew (((Below.refl _ _).alloc (Nat.le_refl _) _).alloc (by simp) _)
      | exact below_drewN (((Below.refl _ _).alloc (Nat.le_refl _) _).alloc (by simp) _) _

/-- Bytes lie in no block of other cells: they stay while such a block is written. -/
theorem bytes_far {V V' : World} {g : Nat} {cs : Array Value} {t : TypeId} {a : Option Addr} {n c : Nat} {l : List Int} (h : Bytes V a n c l) (hg : Blk V g cs t) (hcs : ∀ (j : Nat) (z : Int), cs[j]? ≠ some (.int .u8 z)) (hk : ∀ p : Addr, p.block ≠ g → V'.cell? p = V.cell? p) : Bytes V' a n c l := by
  refine ⟨h.len, h.cap, h.most, h.all, h.nil, ?_⟩
  rcases h.at' with h0 | ⟨b, off, ha, hc⟩
  · exact .inl h0
  · refine .inr ⟨b, off, ha, fun i hi => ?_⟩
    have hb : b ≠ g := by
      rintro rfl
      have := hc i hi
      rw [hg.cell] at this
      exact hcs _ _ this
    rw [hk _ hb]
    exact hc i hi
theorem dev_cells (room s : Nat) (a : Option Addr) (n c : Nat) (j : Nat) (z : Int) : (#[Value.int .i64 room, .int .i64 s, .slice a n c] : Array Value)[j]? ≠ some (.int .u8 z) := by
  rcases j with _ | _ | _ | j <;> simp
theorem far_set3 (V : World) (g : Nat) (u0 u1 u2 : Value) (p : Addr) (hp : p.block ≠ g) : (((V.setCell ⟨g, 0, none⟩ u0).setCell ⟨g, 1, none⟩ u1).setCell ⟨g, 2, none⟩ u2).cell? p = V.cell? p := by
  rw [World.cell?_setCell_far _ _ _ _ (fun e => hp e.symm), World.cell?_setCell_far _ _ _ _ (fun e => hp e.symm), World.cell?_setCell_far _ _ _ _ (fun e => hp e.symm)]
theorem far3 {V : World} {g h : Nat} {v0 v1 v2 u0 u1 u2 : Value} (hg : g ≠ h) (hv : V.cell? ⟨g, 0, none⟩ = some v0 ∧ V.cell? ⟨g, 1, none⟩ = some v1 ∧ V.cell? ⟨g, 2, none⟩ = some v2) :
    (((V.setCell ⟨h, 0, none⟩ u0).setCell ⟨h, 1, none⟩ u1).setCell ⟨h, 2, none⟩ u2).cell? ⟨g, 0, none⟩ = some v0 ∧ (((V.setCell ⟨h, 0, none⟩ u0).setCell ⟨h, 1, none⟩ u1).setCell ⟨h, 2, none⟩ u2).cell? ⟨g, 1, none⟩ = some v1 ∧ (((V.setCell ⟨h, 0, none⟩ u0).setCell ⟨h, 1, none⟩ u1).setCell ⟨h, 2, none⟩ u2).cell? ⟨g, 2, none⟩ = some v2 := by
  have e : ∀ j, (((V.setCell ⟨h, 0, none⟩ u0).setCell ⟨h, 1, none⟩ u1).setCell ⟨h, 2, none⟩ u2).cell? ⟨g, j, none⟩ = V.cell? ⟨g, j, none⟩ := fun j => by
    rw [World.cell?_setCell_far _ _ _ _ (fun e => hg e.symm), World.cell?_setCell_far _ _ _ _ (fun e => hg e.symm), World.cell?_setCell_far _ _ _ _ (fun e => hg e.symm)]
  exact ⟨(e 0).trans hv.1, (e 1).trans hv.2.1, (e 2).trans hv.2.2⟩

set_option maxRecDepth 100000 in
set_option maxHeartbeats 1000000 in
theorem rcrash_any (room s : Nat) (a : Option Addr) (n c : Nat) (l : List Int) (m : Int) (w : World) (h : Bytes w a n c l) (hn : n ≤ 65536) (hs : s ≤ n) (m0 : -9223372036854775808 ≤ m) (m1 : m ≤ 9223372036854775807) :
    Calls Try.prog 78 #[rv room s a n c, .int .i64 m] w (RvPost w room (kept m s n) a (kept m s n) (l.take (kept m s n))) := by
  have HH := Lib.hid h; clear h
  have hkn : kept m s n ≤ n := by have := clampN_le m (n - s); unfold kept; omega
  have hsk : s ≤ kept m s n := by unfold kept; omega
  have hcl : clampN (kept m s n : Int) n = kept m s n := by
    rcases clamp_ways (kept m s n : Int) n with ⟨g0, gk⟩ | ⟨k, hk, g0, gk⟩ | ⟨k, hk, g0, gk⟩ <;> omega
  obtain ⟨y, hy⟩ : ∃ y, clampN m (n - s) = y := ⟨_, rfl⟩
  have hK : (s : Int) + y = (kept m s n : Nat) := by unfold kept; rw [hy]; omega
  have z1 : IntKind.i64.wrap ((n : Int) - s) = ((n - s : Nat) : Int) := by rw [IntWalk.i64_in _ (by omega)]; omega
  have z2 : IntKind.i64.wrap ((s : Int) + y) = (kept m s n : Nat) := by rw [IntWalk.i64_in _ (by omega)]; exact hK
  have hcut : ∀ V, Bytes V a n c l → Calls Try.prog 74 #[rv room s a n c, .int .i64 (kept m s n : Nat)] V (RvPost V room s a (kept m s n) (l.take (kept m s n))) := fun V hV => by
    have := rcut_any room s a n c l (kept m s n : Nat) V hV hn (by omega) (by omega) (by omega)
    rwa [hcl, Nat.min_eq_left hsk] at this
  have HC := Lib.hid hcut
  have HY := Lib.hid hy
  clear hy hcl hK hcut
  generalize kept m s n = k at hkn hsk z2 HC ⊢
  go_enter Try.func78, Try.ntmps78
  go_wp2_with fail
  have hW : Below w.heap.size w ((w.alloc (.cells #[.int .i64 room, .int .i64 s, .slice a n c] 54)).alloc (.cells #[.int .i64 0, .int .i64 0, .slice none 0 0] 54)) := ((Below.refl _ _).alloc (Nat.le_refl _) _).alloc (by simp) _
  have hb : Blk ((w.alloc (.cells #[.int .i64 room, .int .i64 s, .slice a n c] 54)).alloc (.cells #[.int .i64 0, .int .i64 0, .slice none 0 0] 54)) w.heap.size #[.int .i64 room, .int .i64 s, .slice a n c] 54 := (Blk.new w _ _).below ((Below.refl _ _).alloc (Nat.le_refl _) _)
  have hr : Blk ((w.alloc (.cells #[.int .i64 room, .int .i64 s, .slice a n c] 54)).alloc (.cells #[.int .i64 0, .int .i64 0, .slice none 0 0] 54)) (w.heap.size + 1) #[.int .i64 0, .int .i64 0, .slice none 0 0] 54 := by
    have e : (w.alloc (.cells #[.int .i64 room, .int .i64 s, .slice a n c] 54)).heap.size = w.heap.size + 1 := by simp
    have := Blk.new (w.alloc (.cells #[.int .i64 room, .int .i64 s, .slice a n c] 54)) #[.int .i64 0, .int .i64 0, .slice none 0 0] 54
    rwa [e] at this
  generalize (w.alloc (.cells #[.int .i64 room, .int .i64 s, .slice a n c] 54)).alloc (.cells #[.int .i64 0, .int .i64 0, .slice none 0 0] 54) = W at hW hb hr ⊢
  have Kb : Hid (∀ V, Below W.heap.size W V → V.cell? ⟨w.heap.size, 0, none⟩ = some (.int .i64 room) ∧ V.cell? ⟨w.heap.size, 1, none⟩ = some (.int .i64 s) ∧ V.cell? ⟨w.heap.size, 2, none⟩ = some (.slice a n c)) := fun V hV => by
    have := hb.below hV
    exact ⟨this.cell 0, this.cell 1, this.cell 2⟩
  have hne : w.heap.size ≠ w.heap.size + 1 := by omega
  have HNE := Lib.hid hne
  have HBW := Lib.hid hW; have HR := Lib.hid hr
  clear hW hb hr hne
  have HWb : Hid (Bytes W.drew a n c l) := (HH.out.below HBW.out).drewN 1
  go_region_held_law (fun V => V.cell? ⟨w.heap.size, 0, none⟩ = some (.int .i64 room) ∧ V.cell? ⟨w.heap.size, 1, none⟩ = some (.int .i64 s) ∧ V.cell? ⟨w.heap.size, 2, none⟩ = some (.slice a n c))
    (first | exact Kb.out _ (Below.drew (Below.refl _ _)) | exact Kb.out _ HB2.out | exact Kb.out _ HB1.out | exact far3 HNE.out (Kb.out _ HB2.out))
    (first
    | (go_at_call 75; (with_reducible refine (between_any m (n - s) _ m0 m1).mono ?_); rintro e w' ⟨rfl, rfl⟩; rw [HY.out])
    | (go_at_call 74; (with_reducible refine (HC.out _ HWb.out).mono ?_); rintro e w1 ⟨hb1, a1, c1, rfl, hby, hl⟩; have HB1 : Hid (Below W.heap.size W w1) := Below.trans (Below.drew (Below.refl _ _)) hb1; have HBy := Lib.hid hby; have HL := Lib.hid hl; clear hb1 hby hl)
    | (go_at_call 77; (with_reducible refine (rsync_any room s a1 k c1 _ _ HBy.out).mono ?_); rintro e w2 ⟨hb2, a2, c2, rfl, hby2, hl2⟩; have HB2 : Hid (Below W.heap.size W w2) := HB1.out.trans (hb2.mono HB1.out.size); have HBy2 := Lib.hid hby2; have HL2 := Lib.hid hl2; have HLt := Lib.hid HB1.out.size; have HLt2 := Lib.hid hb2.size; have hr2 := HR.out.below HB2.out; have r0 := hr2.cell 0; have r1 := hr2.cell 1; have r2 := hr2.cell 2; have f0 := hr2.free 0; have f1 := hr2.free 1; have f2 := hr2.free 2; clear hb2 hby2 hl2))
  have HBF := Lib.hid (HBW.out.trans (HB2.out.mono HBW.out.size))
  have HF : Hid (Bytes (((w2.setCell ⟨w.heap.size + 1, 0, none⟩ (.int .i64 room)).setCell ⟨w.heap.size + 1, 1, none⟩ (.int .i64 k)).setCell ⟨w.heap.size + 1, 2, none⟩ (.slice a2 k c2)) a2 k c2 (l.take k)) := bytes_far HBy2.out (HR.out.below HB2.out) (dev_cells 0 0 none 0 0) (fun p hp => far_set3 _ _ _ _ _ p hp)
  go_wp2
  refine bodyPost_ret (v := rv room k a2 k c2) (by simp [results, Try.results78, go_sem, rv, r0, r1, r2]) rfl ?_
  refine ⟨?_, a2, c2, rfl, HF.out, ?_⟩
  · repeat refine Below.setCell ?_ (by simp) _
    exact HBF.out
  · intro g hg
    have e : ∀ u0 u1 u2, (((w2.setCell ⟨w.heap.size + 1, 0, none⟩ u0).setCell ⟨w.heap.size + 1, 1, none⟩ u1).setCell ⟨w.heap.size + 1, 2, none⟩ u2).heap.size = w2.heap.size := fun _ _ _ => by simp [World.setCell]
    rw [e]
    rcases HL2.out g hg with h | h
    · rcases HL.out g h with h | h
      · exact .inl h
      · exact .inr ⟨Nat.le_trans HBW.out.size h.1, Nat.lt_of_lt_of_le h.2 HLt2.out⟩
    · exact .inr ⟨Nat.le_trans (Nat.le_trans HBW.out.size HLt.out) h.1, h.2⟩

theorem apE_eq (room n m : Nat) (h : n ≤ room) : apE room n m = if room < n + m then 28 else 0 := by
  unfold apE
  by_cases hm : m = 0
  · rw [if_pos hm, if_neg (by omega)]
  · rw [if_neg hm]
def RaPost (w : World) (room s : Nat) (a : Option Addr) (E : Int) (l : List Int) (e : Ending) (w' : World) : Prop :=
  Below w.heap.size w w' ∧ ∃ a' n' c', e = .returned (.tuple #[rv room s a' n' c', .int .i64 E]) ∧ Bytes w' a' n' c' l ∧ Lies w w' a a'
end Go.Proofs.Ytejhncdempfmjaa.dv
/-
  Layer 48: the contracts of the document's Append, and of what is done.
-/
namespace Go.Proofs.Ytejhncdempfmjaa.dv
open Go.ChangeShapes Go.WideShapes Go.ChangeAt Go.RowKit
open bs
set_option linter.unusedVariables false

theorem own3 (w : World) (o1 o2 : Obj) : OwnB (((w.alloc o1).alloc o2).alloc (.cells #[] 5)) (w.heap.size + 1 + 1) 5 (some ⟨w.heap.size + 1 + 1, 0, none⟩) 0 0 [] := by
  simpa using OwnB.made ((w.alloc o1).alloc o2) (w.heap.size + 1 + 1) 5 [] #[] rfl (by simp) (by simp [maxLen]) (by simp [AllB])
def apL (room n m : Nat) (l lb : List Int) : List Int := if apE room n m = 0 then l ++ lb else l

set_option maxRecDepth 100000 in
set_option maxHeartbeats 1000000 in
theorem rappend_any (room s : Nat) (a : Option Addr) (n c : Nat) (l : List Int) (b : Option Addr) (m cb : Nat) (lb : List Int) (w : World) (h : Bytes w a n c l) (hb : Bytes w b m cb lb) (hn : n ≤ room) (hr : room ≤ 65536) (hm : m ≤ 4611686018427387904) :
    Calls Try.prog 40 #[rv room s a n c, .slice b m cb] w (RaPost w room s a (apE room n m) (apL room n m l lb)) := by
  have hE := apE_eq room n m hn
  have HH := Lib.hid h; have HHb := Lib.hid hb; clear h hb
  have HW : Hid (∀ o o' : Obj, Below w.heap.size w ((w.alloc o).alloc o')) := fun o o' => ((Below.refl _ _).alloc (Nat.le_refl _) o).alloc (by simp) o'
  have HW3 : Hid (∀ o o' o'' : Obj, Below w.heap.size w (((w.alloc o).alloc o').alloc o'')) := fun o o' o'' => (((Below.refl _ _).alloc (Nat.le_refl _) o).alloc (by simp) o').alloc (by simp; omega) o''
  by_cases h1 : room < n + m
  · rw [if_pos h1] at hE
    have hl : apL room n m l lb = l := if_neg (by omega)
    have HE := Lib.hid hE; have HL := Lib.hid hl
    have d1 : (room : Int) < (n : Int) + m := by omega
    clear hE hl h1
    go_enter Try.func40, Try.ntmps40
    go_wp2
    refine bodyPost_ret (v := .tuple #[rv room s a n c, .int .i64 28]) (by simp [results, Try.results40, go_sem, rv]) rfl ?_
    refine ⟨HW.out _ _, a, n, c, by rw [HE.out], by rw [HL.out]; exact HH.out.below (HW.out _ _), Lies.refl _ _ _⟩
  · rw [if_neg h1] at hE
    have hl : apL room n m l lb = l ++ lb := if_pos hE
    have HE := Lib.hid hE; have HL := Lib.hid hl
    have d1 : ¬ (room : Int) < (n : Int) + m := by omega
    have n1 : 0 + n ≤ 140737488355328 := by omega
    have n2 : n + m ≤ 140737488355328 := by omega
    clear hE hl h1
    go_enter Try.func40, Try.ntmps40
    have hsz : ∀ o o' o'' : Obj, w.heap.size + 1 + 1 ≤ (((w.alloc o).alloc o').alloc o'').heap.size := fun o o' o'' => by simp
    have hb : ∀ v o'', Blk (((w.alloc (.cells #[.int .i64 room, .int .i64 s, .slice a n c] 54)).alloc (.cells v 54)).alloc o'') w.heap.size #[.int .i64 room, .int .i64 s, .slice a n c] 54 := fun v o'' => (Blk.new w _ _).below (((Below.refl _ _).alloc (Nat.le_refl _) _).alloc (by simp) _)
    have hr : ∀ v o'', Blk (((w.alloc (.cells v 54)).alloc (.cells #[.int .i64 0, .int .i64 0, .slice none 0 0] 54)).alloc o'') (w.heap.size + 1) #[.int .i64 0, .int .i64 0, .slice none 0 0] 54 := fun v o'' => by
      have e : (w.alloc (.cells v 54)).heap.size = w.heap.size + 1 := by simp
      have := (Blk.new (w.alloc (.cells v 54)) #[.int .i64 0, .int .i64 0, .slice none 0 0] 54).below ((Below.refl _ _).alloc (Nat.le_refl _) o'')
      rwa [e] at this
    have HSz := Lib.hid hsz; have HBk := Lib.hid hb; have HRk := Lib.hid hr
    clear hsz hb hr
    go_wp2_with (at_builtin; refine wpList_append_b en.byteT rfl (.tmp 16) (.tmp 18) rfl (w.heap.size + 1 + 1) rfl (own3 w _ _) rfl (HH.out.below (HW3.out _ _ _)) n1 (HSz.out _ _ _) ?_)
    intro a2 c2 w2 ho2 hb2 _
    have hw2 : Below w.heap.size w w2 := (HW3.out _ _ _).trans (hb2.mono (by omega))
    have hbk2 : Blk w2 w.heap.size #[.int .i64 room, .int .i64 s, .slice a n c] 54 := (HBk.out _ _).of (hb2.block _ (by omega))
    have hrk2 : Blk w2 (w.heap.size + 1) #[.int .i64 0, .int .i64 0, .slice none 0 0] 54 := (HRk.out _ _).of (hb2.block _ (by omega))
    have hs2 : w.heap.size + 1 + 1 ≤ w2.heap.size := Nat.le_trans (HSz.out _ _ _) hb2.size
    have HO2 := Lib.hid ho2; have HW2 := Lib.hid hw2; have HB2 := Lib.hid hbk2; have HR2 := Lib.hid hrk2
    clear ho2 hb2 hw2 hbk2 hrk2
    go_wp2_with (at_builtin; refine wpList_append_b en.byteT rfl (.tmp 19) (.tmp 20) rfl (w.heap.size + 1 + 1) rfl HO2.out rfl (HHb.out.below HW2.out) n2 hs2 ?_)
    intro a3 c3 w3 ho3 hb3 _
    have hw3 : Below w.heap.size w w3 := HW2.out.trans (hb3.mono (by omega))
    have hbk3 : Blk w3 w.heap.size #[.int .i64 room, .int .i64 s, .slice a n c] 54 := HB2.out.of (hb3.block _ (by omega))
    have hrk3 : Blk w3 (w.heap.size + 1) #[.int .i64 0, .int .i64 0, .slice none 0 0] 54 := HR2.out.of (hb3.block _ (by omega))
    have c0 := hbk3.cell 0; have c1 := hbk3.cell 1; have c2 := hbk3.cell 2; have f2 := hbk3.free 2
    have r0 := hrk3.cell 0; have r1 := hrk3.cell 1; have r2 := hrk3.cell 2
    have g0 := hrk3.free 0; have g1 := hrk3.free 1; have g2 := hrk3.free 2
    have HO3 := Lib.hid ho3; have HW3' := Lib.hid hw3
    clear ho3 hb3 hw3 hbk3 hrk3
    go_wp2
    refine bodyPost_ret (v := .tuple #[rv room s a3 (n + m) c3, .int .i64 0]) (by simp [results, Try.results40, go_sem, rv, r0, r1, r2]) rfl ?_
    refine ⟨?_, a3, n + m, c3, by rw [HE.out], ?_, ?_⟩
    · repeat refine Below.setCell ?_ (by simp) _
      exact HW3'.out
    · rw [HL.out]
      refine OwnB.bytes (HO3.out.of (fun i hi => ?_))
      have hge := (HO3.out.blockLt hi).1
      rw [Below.heap_setCell _ _ _ _ (by simp; omega), Below.heap_setCell _ _ _ _ (by simp; omega), Below.heap_setCell _ _ _ _ (by simp; omega), Below.heap_setCell _ _ _ _ (by simp; omega)]
    · intro g hg
      have h3 := HO3.out.blockLt hg
      have e : ∀ v u0 u1 u2, ((((w3.setCell ⟨w.heap.size, 2, none⟩ v).setCell ⟨w.heap.size + 1, 0, none⟩ u0).setCell ⟨w.heap.size + 1, 1, none⟩ u1).setCell ⟨w.heap.size + 1, 2, none⟩ u2).heap.size = w3.heap.size := fun _ _ _ _ => by simp [World.setCell]
      rw [e]
      exact .inr ⟨by omega, h3.2⟩
end Go.Proofs.Ytejhncdempfmjaa.dv
