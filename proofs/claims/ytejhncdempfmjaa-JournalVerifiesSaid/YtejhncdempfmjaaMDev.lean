/-
  Layer 48: the contracts of the program's device.
-/
import Derived.Test.YtejhncdempfmjaaTurned
import Derived.Test.YtejhncdempfmjaaMEntry
import Derived.StillTailTactics
import Derived.Deep.RegionHeldLaw
import Derived.IntWalk
namespace Go.Proofs.Ytejhncdempfmjaa.dv
open Go.ChangeShapes Go.WideShapes Go.ChangeAt Go.RowKit
open bs
set_option linter.unusedVariables false

/-- A number, from 0 to h. -/
def clampN (m : Int) (h : Nat) : Nat := if m < 0 then 0 else if (h : Int) < m then h else m.toNat
theorem clampN_le (m : Int) (h : Nat) : clampN m h ≤ h := by
  unfold clampN; split
  · omega
  · split <;> omega

/-- A device in memory. -/
structure Dev (w : World) (base dd room s : Nat) (a : Option Addr) (n c : Nat) (l : List Int) : Prop where
  blk : Blk w dd #[.int .i64 room, .int .i64 s, .slice a n c] 104
  own : OwnB w base 5 a n c l
  ge : base ≤ dd
  le : s ≤ n
  fit : n ≤ room
  most : room ≤ 65536

theorem Dev.c0 {w base dd room s a n c l} (h : Dev w base dd room s a n c l) : w.cell? ⟨dd, 0, none⟩ = some (.int .i64 room) := h.blk.cell 0
theorem Dev.c1 {w base dd room s a n c l} (h : Dev w base dd room s a n c l) : w.cell? ⟨dd, 1, none⟩ = some (.int .i64 s) := h.blk.cell 1
theorem Dev.c2 {w base dd room s a n c l} (h : Dev w base dd room s a n c l) : w.cell? ⟨dd, 2, none⟩ = some (.slice a n c) := h.blk.cell 2
theorem Dev.ne {w base dd room s a n c l} (h : Dev w base dd room s a n c l) : blockOf a ≠ some dd := h.own.notBlk h.blk (by decide)
theorem Dev.far {w w' base dd room s a n c l} (h : Dev w base dd room s a n c l) (hb : Below w.heap.size w w') : Dev w' base dd room s a n c l :=
  ⟨h.blk.below hb, h.own.below hb, h.ge, h.le, h.fit, h.most⟩
theorem Dev.drewN {w base dd room s a n c l} (h : Dev w base dd room s a n c l) (m : Nat) : Dev (w.drewN m) base dd room s a n c l := h.far (below_drewN (Below.refl _ _) m)

theorem Dev.setSure {w base dd room s a n c l} (h : Dev w base dd room s a n c l) (k : Nat) (hk : k ≤ n) : Dev (w.setCell ⟨dd, 1, none⟩ (.int .i64 k)) base dd room k a n c l :=
  ⟨h.blk.set 1 _, h.own.of (fun i hi => Below.heap_setCell w ⟨dd, 1, none⟩ _ i (fun e => h.ne (by rw [hi, e]))), h.ge, hk, h.fit, h.most⟩
/-- Other bytes, of an owned slice. -/
theorem Dev.setBytes {w base dd room s a n c l} (h : Dev w base dd room s a n c l) {w' : World} (hb : Blk w' dd #[.int .i64 room, .int .i64 s, .slice a n c] 104) {a' : Option Addr} {n' c' : Nat} {l' : List Int} (ho : OwnB w' base 5 a' n' c' l') (hs : s ≤ n') (hf : n' ≤ room) :
    Dev (w'.setCell ⟨dd, 2, none⟩ (.slice a' n' c')) base dd room s a' n' c' l' :=
  ⟨hb.set 2 _, ho.of (fun i hi => Below.heap_setCell w' ⟨dd, 2, none⟩ _ i (fun e => ho.notBlk hb (by decide) (by rw [hi, e]))), h.ge, hs, hf, h.most⟩

def DPost (w : World) (r : Int) (e : Ending) (w' : World) : Prop :=
  e = .returned (.pointer (some ⟨w.heap.size, 0, none⟩)) ∧ Dev w' w.heap.size w.heap.size (clampN r 65536) 0 none 0 0 [] ∧ Below w.heap.size w w'
theorem dev_new (w : World) (k : Nat) (hk : k ≤ 65536) : Dev (w.alloc (.cells #[.int .i64 k, .int .i64 0, .slice none 0 0] 104)) w.heap.size w.heap.size k 0 none 0 0 [] :=
  ⟨Blk.new w _ _, OwnB.nil _ _ _, Nat.le_refl _, Nat.le_refl _, Nat.zero_le _, hk⟩

set_option maxRecDepth 100000 in
set_option maxHeartbeats 400000 in
theorem new_any (r : Int) (w : World) (r0 : -9223372036854775808 ≤ r) (r1 : r ≤ 9223372036854775807) : Calls Try.prog 32 #[.int .i64 r] w (DPost w r) := by
  have hd := dev_new w (clampN r 65536) (clampN_le _ _)
  have HD := Lib.hid hd
  have HB := Lib.hid ((Below.refl w.heap.size w).alloc (Nat.le_refl _) (.cells #[.int .i64 (clampN r 65536), .int .i64 0, .slice none 0 0] 104))
  clear hd
  by_cases h0 : r < 0
  · have e : clampN r 65536 = 0 := by unfold clampN; rw [if_pos h0]
    rw [e] at HD HB
    unfold DPost
    rw [e]
    clear e
    have hm2 : min (max r 0) 65536 = ((0 : Nat) : Int) := by omega
    go_enter Try.func32, Try.ntmps32
    go_wp2
    go_ret
    exact ⟨rfl, HD.out, HB.out⟩
  · by_cases h1 : 65536 < r
    · have e : clampN r 65536 = 65536 := by unfold clampN; rw [if_neg h0, if_pos (by omega)]
      rw [e] at HD HB
      unfold DPost
      rw [e]
      clear e
      have hm2 : min (max r 0) 65536 = ((65536 : Nat) : Int) := by omega
      go_enter Try.func32, Try.ntmps32
      go_wp2
      go_ret
      exact ⟨rfl, HD.out, HB.out⟩
    · obtain ⟨k, rfl⟩ := Int.eq_ofNat_of_zero_le (show 0 ≤ r by omega)
      have e : clampN (k : Int) 65536 = k := by unfold clampN; rw [if_neg h0, if_neg (by omega)]; omega
      rw [e] at HD HB
      unfold DPost
      rw [e]
      clear e
      have h2 : ¬ 65536 < k := by omega
      have hm2 : min (k : Int) 65536 = (k : Int) := by omega
      go_enter Try.func32, Try.ntmps32
      go_wp2
      go_ret
      exact ⟨rfl, HD.out, HB.out⟩

theorem bytes_nil (w : World) : Calls Try.prog 69 #[.pointer none] w fun e w' => e = .returned (.slice none 0 0) ∧ w = w' := by
  go_enter Try.func69, Try.ntmps69
  go_wp2
  go_ret
  exact ⟨rfl, rfl⟩
theorem sync_nil (w : World) : Calls Try.prog 79 #[.pointer none] w fun e w' => e = .returned (.tuple #[]) ∧ w = w' := by
  go_enter Try.func79, Try.ntmps79
  go_wp2
  go_end0
  exact ⟨rfl, rfl⟩
theorem crash_nil (m : Int) (w : World) : Calls Try.prog 47 #[.pointer none, .int .i64 m] w fun e w' => e = .returned (.tuple #[]) ∧ w = w' := by
  go_enter Try.func47, Try.ntmps47
  go_wp2
  refine bodyPost_ret (results_none rfl _ _ _) rfl ?_
  exact ⟨rfl, rfl⟩
theorem cut_nil (m : Int) (w : World) : Calls Try.prog 72 #[.pointer none, .int .i64 m] w fun e w' => e = .returned (.tuple #[]) ∧ w = w' := by
  go_enter Try.func72, Try.ntmps72
  go_wp2
  refine bodyPost_ret (results_none rfl _ _ _) rfl ?_
  exact ⟨rfl, rfl⟩
/-- What no device answers to an append. -/
def nilE (m : Nat) : Int := if m = 0 then 0 else 28
theorem append_nil (b : Option Addr) (m c : Nat) (w : World) : Calls Try.prog 39 #[.pointer none, .slice b m c] w fun e w' => e = .returned (.int .i64 (nilE m)) ∧ ∃ k, w' = w.drewN k := by
  by_cases hm : m = 0
  · have e : nilE m = 0 := if_pos hm
    rw [e]
    clear e
    subst hm
    go_enter Try.func39, Try.ntmps39
    go_wp2
    go_ret
    exact ⟨rfl, 0, rfl⟩
  · have e : nilE m = 28 := if_neg hm
    rw [e]
    clear e
    have d : ((m : Int) == 0) = false := by rw [beq_eq_false_iff_ne]; omega
    have HM := Lib.hid hm; clear hm
    go_enter Try.func39, Try.ntmps39
    go_wp2_with fail
    go_quiet (fail)
    go_wp2
    go_ret
    exact ⟨rfl, _, rfl⟩

theorem bytes_any {w : World} {base dd room s : Nat} {a : Option Addr} {n c : Nat} {l : List Int} (h : Dev w base dd room s a n c l) : Calls Try.prog 69 #[.pointer (some ⟨dd, 0, none⟩)] w (en.APost w w.heap.size n l) := by
  have c2 := h.c2
  have HH := Lib.hid h; clear h
  go_enter Try.func69, Try.ntmps69
  go_wp2_with fail
  refine (en.clone_any a n c l _ HH.out.own.bytes (by have := HH.out.fit; have := HH.out.most; omega)).mono ?_
  rintro e w1 ⟨a1, c1, rfl, ho, hb⟩
  have HO := Lib.hid ho; have HB := Lib.hid hb; clear ho hb
  go_wp2
  go_ret
  exact ⟨a1, c1, rfl, HO.out, HB.out⟩
theorem sync_any {w : World} {base dd room s : Nat} {a : Option Addr} {n c : Nat} {l : List Int} (h : Dev w base dd room s a n c l) : Calls Try.prog 79 #[.pointer (some ⟨dd, 0, none⟩)] w fun e w' => e = .returned (.tuple #[]) ∧ w' = w.setCell ⟨dd, 1, none⟩ (.int .i64 n) := by
  have c1 := h.c1
  have c2 := h.c2
  have f1 := h.blk.free 1
  clear h
  go_enter Try.func79, Try.ntmps79
  go_wp2
  go_end0
  exact ⟨rfl, rfl⟩

/-- What an append answers. -/
def apE (room n m : Nat) : Int := if m = 0 then 0 else if room < n + m then 28 else 0
def APd (w : World) (base dd room s : Nat) (a : Option Addr) (n m : Nat) (l lb : List Int) (e : Ending) (w' : World) : Prop :=
  e = .returned (.int .i64 (apE room n m)) ∧ Turned w w' dd (blockOf a) ∧ ∃ a' n' c', Dev w' base dd room s a' n' c' (if apE room n m = 0 then l ++ lb else l) ∧ (blockOf a' = blockOf a ∨ ∃ g, blockOf a' = some g ∧ w.heap.size ≤ g)

set_option maxRecDepth 100000 in
set_option maxHeartbeats 1000000 in
theorem append_any {w : World} {base dd room s : Nat} {a : Option Addr} {n c : Nat} {l : List Int} (h : Dev w base dd room s a n c l) (b : Option Addr) (m cb : Nat) (lb : List Int) (hb : Bytes w b m cb lb) (hm : m ≤ 4611686018427387904) (hbase : base ≤ w.heap.size) :
    Calls Try.prog 39 #[.pointer (some ⟨dd, 0, none⟩), .slice b m cb] w (APd w base dd room s a n m l lb) := by
  have c0 := h.c0; have c2 := h.c2
  have hfit := h.fit; have hmost := h.most
  have HH := Lib.hid h; have HB := Lib.hid hb; clear h hb
  by_cases h0 : m = 0
  · have e : apE room n m = 0 := by unfold apE; rw [if_pos h0]
    have HE := Lib.hid e; clear e
    have hlb : lb = [] := List.eq_nil_of_length_eq_zero (by rw [HB.out.len, h0])
    have HLB := Lib.hid hlb; clear hlb
    subst h0
    go_enter Try.func39, Try.ntmps39
    go_wp2
    go_ret
    exact ⟨by rw [HE.out]; rfl, Turned.refl _ _ _, a, n, c, by rw [if_pos HE.out, HLB.out, List.append_nil]; exact HH.out, .inl rfl⟩
  · have d : ((m : Int) == 0) = false := by rw [beq_eq_false_iff_ne]; omega
    have z : IntKind.i64.wrap ((room : Int) - n) = (room : Int) - n := IntWalk.i64_in _ (by omega)
    by_cases h1 : room < n + m
    · have e : apE room n m = 28 := by unfold apE; rw [if_neg h0, if_pos h1]
      have HE := Lib.hid e; clear e
      have d1 : (room : Int) - n < m := by omega
      clear h0
      go_enter Try.func39, Try.ntmps39
      go_wp2_with fail
      go_quiet (fail)
      go_wp2
      go_ret
      exact ⟨by rw [HE.out]; rfl, (Turned.refl _ _ _).drewN _, a, n, c, by rw [if_neg (by rw [HE.out]; omega)]; exact HH.out.drewN _, .inl rfl⟩
    · have e : apE room n m = 0 := by unfold apE; rw [if_neg h0, if_neg h1]
      have HE := Lib.hid e; clear e
      have d1 : ¬ (room : Int) - n < m := by omega
      have hpos : 0 < m := by omega
      have hn : n + m ≤ 140737488355328 := by omega
      clear h0
      go_enter Try.func39, Try.ntmps39
      go_wp2_with fail
      go_quiet (fail)
      go_wp2_with (at_builtin; refine wpList_append_b3 en.byteT rfl _ _ rfl base rfl (HH.out.own.drewN _) rfl (HB.out.drewN _) hpos hn hbase ?_)
      intro a2 c2' w2 ho2 hg2 hat2
      have hT : Turned w w2 dd (blockOf a) := Turned.below_trans (below_drewN (Below.refl _ _) _) (Turned.of_grown hg2 dd)
      have hblk : Blk w2 dd #[.int .i64 room, .int .i64 s, .slice a n c] 104 := HH.out.blk.of (hg2.block dd HH.out.blk.lt (fun e => HH.out.ne e.symm))
      have hD := HH.out.setBytes hblk ho2 (by have := HH.out.le; omega) (by omega)
      have f2 := hblk.free 2
      have g2 : w2.cell? ⟨dd, 2, none⟩ = some (.slice a n c) := hblk.cell 2
      have HT := Lib.hid (hT.setCell 2 (.slice a2 (n + m) c2')); have HD := Lib.hid hD; have HAt := Lib.hid hat2
      clear hT hblk hD ho2 hg2 hat2
      go_wp2
      go_ret
      refine ⟨by rw [HE.out]; rfl, HT.out, a2, n + m, c2', by rw [if_pos HE.out]; exact HD.out, ?_⟩
      rcases HAt.out with h | h
      · exact .inl h
      · exact .inr ⟨_, h, Nat.le_refl _⟩
end Go.Proofs.Ytejhncdempfmjaa.dv
/-
  Layer 48: the contracts of the program's Cut and Crash, and of what is done.
-/
namespace Go.Proofs.Ytejhncdempfmjaa.dv
open Go.ChangeShapes Go.WideShapes Go.ChangeAt Go.RowKit
open bs
set_option linter.unusedVariables false

/-- The three ways of a number, from 0 to h. -/
theorem clamp_ways (m : Int) (h : Nat) : (m < 0 ∧ clampN m h = 0) ∨ (∃ k : Nat, m = k ∧ ¬ h < k ∧ clampN m h = k) ∨ (∃ k : Nat, m = k ∧ h < k ∧ clampN m h = h) := by
  unfold clampN
  by_cases h0 : m < 0
  · exact .inl ⟨h0, if_pos h0⟩
  · obtain ⟨k, rfl⟩ := Int.eq_ofNat_of_zero_le (show 0 ≤ m by omega)
    by_cases h1 : h < k
    · exact .inr (.inr ⟨k, rfl, h1, by rw [if_neg h0, if_pos (by omega)]⟩)
    · exact .inr (.inl ⟨k, rfl, h1, by rw [if_neg h0, if_neg (by omega)]; omega⟩)

/-- A device, its cells and its row, behind stores into its cells. -/
theorem Dev.store2 {w base dd room s a n c l} (h : Dev w base dd room s a n c l) (k s' d1 d2 : Nat) (hk : k ≤ n) (hs : s' ≤ k) :
    Dev ((((w.drewN d1).setCell ⟨dd, 2, none⟩ (.slice a k c)).drewN d2).setCell ⟨dd, 1, none⟩ (.int .i64 s')) base dd room s' a k c (l.take k) := by
  have b1 : Blk (((w.drewN d1).setCell ⟨dd, 2, none⟩ (.slice a k c)).drewN d2) dd #[.int .i64 room, .int .i64 s, .slice a k c] 104 := ((h.blk.drewN d1).set 2 _).drewN d2
  refine ⟨b1.set 1 _, ?_, h.ge, hs, Nat.le_trans hk h.fit, h.most⟩
  refine (h.own.first k hk).of (fun i hi => ?_)
  have hne : i ≠ dd := fun e => h.ne (by rw [hi, e])
  rw [Below.heap_setCell _ ⟨dd, 1, none⟩ _ i hne]
  exact Below.heap_setCell (w.drewN d1) ⟨dd, 2, none⟩ _ i hne
theorem turned_store2 (w : World) (dd : Nat) (row : Option Nat) (v u : Value) (i j d1 d2 : Nat) : Turned w ((((w.drewN d1).setCell ⟨dd, i, none⟩ v).drewN d2).setCell ⟨dd, j, none⟩ u) dd row :=
  ((((Turned.refl w dd row).drewN d1).setCell i v).drewN d2).setCell j u

/-- How max and min reckon it. -/
theorem clamp_eqs (m : Int) (h : Nat) : ∃ x : Nat, (if m < 0 then 0 else m) = (x : Int) ∧ (if h < x then (h : Int) else (x : Int)) = (clampN m h : Nat) ∧ max m 0 = (x : Int) ∧ min (x : Int) (h : Int) = (clampN m h : Nat) := by
  rcases clamp_ways m h with ⟨g0, gk⟩ | ⟨k, rfl, g0, gk⟩ | ⟨k, rfl, g0, gk⟩
  · exact ⟨0, by rw [if_pos g0]; rfl, by rw [gk, if_neg (by omega)], by omega, by rw [gk]; omega⟩
  · exact ⟨k, if_neg (by omega), by rw [gk, if_neg (by omega)], by omega, by rw [gk]; omega⟩
  · exact ⟨k, if_neg (by omega), by rw [gk, if_pos (by omega)], by omega, by rw [gk]; omega⟩
theorem min_eq (k s : Nat) : (if k < s then (k : Int) else (s : Int)) = (min s k : Nat) := by
  by_cases h : k < s
  · rw [if_pos (by omega)]; omega
  · rw [if_neg (by omega)]; omega

set_option maxRecDepth 100000 in
set_option maxHeartbeats 1000000 in
theorem cut_any {w : World} {base dd room s : Nat} {a : Option Addr} {n c : Nat} {l : List Int} (h : Dev w base dd room s a n c l) (m : Int) (m0 : -9223372036854775808 ≤ m) (m1 : m ≤ 9223372036854775807) :
    Calls Try.prog 72 #[.pointer (some ⟨dd, 0, none⟩), .int .i64 m] w fun e w' => e = .returned (.tuple #[]) ∧ Turned w w' dd none ∧ Dev w' base dd room (min s (clampN m n)) a (clampN m n) c (l.take (clampN m n)) := by
  have c1 := h.c1; have c2 := h.c2
  have f1 := h.blk.free 1; have f2 := h.blk.free 2
  have hfit := h.fit; have hmost := h.most; have hle := h.le; have hcap := h.own.bytes.cap; have hcm := h.own.bytes.most
  have HH := Lib.hid h
  have hkn := clampN_le m n
  have hD := h.store2 (clampN m n) (min s (clampN m n)) 1 1 hkn (Nat.min_le_right _ _)
  have hb1 : Blk ((w.drewN 1).setCell ⟨dd, 2, none⟩ (.slice a (clampN m n) c)) dd #[.int .i64 room, .int .i64 s, .slice a (clampN m n) c] 104 := (h.blk.drewN 1).set 2 _
  obtain ⟨x, hx, hk, hx2, hk2⟩ := clamp_eqs m n
  have hmin := min_eq (clampN m n) s
  have hmin2 : min (s : Int) ((clampN m n : Nat) : Int) = ((min s (clampN m n) : Nat) : Int) := by omega
  have HD := Lib.hid hD; have HBl := Lib.hid hb1
  clear h hD hb1
  generalize min s (clampN m n) = s' at hmin hmin2 HD
  generalize clampN m n = k at hkn hk hk2 hmin hmin2 HD HBl
  have hkc : k ≤ c := by omega
  go_enter Try.func72, Try.ntmps72
  go_wp2_with fail
  go_still_tail 16, (by kernel_rfl)
  change wpList _ _ _ _ _ (w.drewN 1)
  go_wp2_with fail
  have g1 := HBl.out.cell 1
  have g2 := HBl.out.cell 2
  have k1 := HBl.out.free 1
  generalize hW1 : (w.drewN 1).setCell ⟨dd, 2, none⟩ (.slice a k c) = W1 at g1 g2 k1 ⊢
  have HW1 := Lib.hid hW1; clear hW1 c1 c2 f1 f2
  go_still_tail 15, (by kernel_rfl)
  change wpList _ _ _ _ _ (W1.drewN 1)
  go_wp2_with fail
  go_end0
  rw [← HW1.out]
  exact ⟨rfl, turned_store2 _ _ _ _ _ _ _ _ _, HW1.out ▸ HD.out⟩

/-- How long the bytes are behind a crash. -/
def kept (m : Int) (s n : Nat) : Nat := s + clampN m (n - s)

set_option maxRecDepth 100000 in
set_option maxHeartbeats 1000000 in
theorem crash_any {w : World} {base dd room s : Nat} {a : Option Addr} {n c : Nat} {l : List Int} (h : Dev w base dd room s a n c l) (m : Int) (m0 : -9223372036854775808 ≤ m) (m1 : m ≤ 9223372036854775807) :
    Calls Try.prog 47 #[.pointer (some ⟨dd, 0, none⟩), .int .i64 m] w fun e w' => e = .returned (.tuple #[]) ∧ Turned w w' dd none ∧ Dev w' base dd room (kept m s n) a (kept m s n) c (l.take (kept m s n)) := by
  have c1 := h.c1; have c2 := h.c2
  have f2 := h.blk.free 2
  have hfit := h.fit; have hmost := h.most; have hle := h.le; have hcap := h.own.bytes.cap; have hcm := h.own.bytes.most
  have hkn : kept m s n ≤ n := by have := clampN_le m (n - s); unfold kept; omega
  have hsk : s ≤ kept m s n := by unfold kept; omega
  have hD : ∀ d, Dev ((w.drewN d).setCell ⟨dd, 2, none⟩ (.slice a (kept m s n) c)) base dd room s a (kept m s n) c (l.take (kept m s n)) := fun d =>
    (h.drewN d).setBytes (h.blk.drewN d) ((h.own.drewN d).first (kept m s n) hkn) hsk (by omega)
  obtain ⟨x, hx, hk, hx2, hk2⟩ := clamp_eqs m (n - s)
  have hK : kept m s n = s + clampN m (n - s) := rfl
  have HD := Lib.hid hD
  clear h hD
  generalize kept m s n = k at hkn hsk hK HD ⊢
  generalize clampN m (n - s) = y at hk hk2 hK
  have hkc : k ≤ c := by omega
  obtain ⟨d, hd⟩ : ∃ d, n - s = d := ⟨_, rfl⟩
  rw [hd] at hk hk2
  have z1 : IntKind.i64.wrap ((n : Int) - s) = (d : Int) := by rw [IntWalk.i64_in _ (by omega)]; omega
  have z2 : IntKind.i64.wrap ((s : Int) + y) = (k : Int) := by rw [IntWalk.i64_in _ (by omega)]; omega
  clear hK hd
  go_enter Try.func47, Try.ntmps47
  go_wp2_with fail
  go_quiet (fail)
  go_wp2_with fail
  have c1' : (w.drewN nq).cell? ⟨dd, 1, none⟩ = some (.int .i64 s) := c1
  have c2' : (w.drewN nq).cell? ⟨dd, 2, none⟩ = some (.slice a n c) := c2
  have f2' : (w.drewN nq).frozen? ⟨dd, 2, none⟩ = false := f2
  have HT : Hid (Turned w (w.drewN nq) dd none) := (Turned.refl _ _ _).drewN _
  have HD1 : Hid (Dev (((w.drewN nq).drewN 1).setCell ⟨dd, 2, none⟩ (.slice a k c)) base dd room s a k c (l.take k)) := by have := HD.out (nq + 1); rwa [← World.drewN_drewN] at this
  generalize w.drewN nq = V at c1' c2' f2' HT HD1 ⊢
  clear c1 c2 f2 HD
  go_still_tail 18, (by kernel_rfl)
  change wpList _ _ _ _ _ (V.drewN 1)
  go_wp2_with fail
  refine (sync_any HD1.out).mono ?_
  rintro e w' ⟨rfl, rfl⟩
  go_wp2
  go_end0
  exact ⟨rfl, ((HT.out.drewN 1).setCell 2 _).setCell 1 _, HD1.out.setSure k (Nat.le_refl _)⟩

/-- What an operation leaves. -/
def stE (room n : Nat) (k : Int) (m : Nat) : Int := if k = 0 then apE room n m else 0
def stL (room s : Nat) (l : List Int) (k : Int) (lb : List Int) (q : Int) : List Int :=
  if k = 0 then (if apE room l.length lb.length = 0 then l ++ lb else l) else if k = 1 then l else if k = 2 then l.take (kept q s l.length) else if k = 3 then l.take (clampN q l.length) else l
def stS (s : Nat) (l : List Int) (k : Int) (q : Int) : Nat := if k = 0 then s else if k = 1 then l.length else if k = 2 then kept q s l.length else if k = 3 then min s (clampN q l.length) else s

theorem Turned.any {w w' : World} {dd : Nat} (h : Turned w w' dd none) (row : Option Nat) : Turned w w' dd row := ⟨h.os, h.tape, h.output, h.size, fun i hi hd _ => h.block i hi hd (by simp)⟩

end Go.Proofs.Ytejhncdempfmjaa.dv
