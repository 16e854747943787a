/-
  Layer 48: the contracts of the program's Cut and Crash, and of what is done.
-/
import Derived.Test.YtcncfljpbbpaoaaDevBase
namespace Go.Proofs.Ytcncfljpbbpaoaa.dv
open Go.ChangeShapes Go.WideShapes Go.ChangeAt Go.RowKit
open bs
set_option linter.unusedVariables false

/-- The three ways of a number, from 0 to h. -/
theorem clamp_ways (m : Int) (h : Nat) : (m < 0 ∧ clampN m h = 0) ∨ (∃ k : Nat, m = k ∧ ¬ h < k ∧ clampN m h = k) ∨ (∃ k : Nat, m = k ∧ h < k ∧ clampN m h = h) := by
  unfold clampN
  by_cases h0 : m < 0
  · exact .inl ⟨h0, if_pos h0⟩
  · obtain ⟨k, rfl⟩ := Int.eq_ofNat_of_zero_le (show 0 ≤ m by omega)
    by_cases h1 : h < k
    · exact .inr (.inr ⟨k, rfl, h1, by rw [if_neg h0, if_pos (by omega)]⟩)
    · exact .inr (.inl ⟨k, rfl, h1, by rw [if_neg h0, if_neg (by omega)]; omega⟩)

/-- A device, its cells and its row, behind stores into its cells. -/
theorem Dev.store2 {w base dd room s a n c l} (h : Dev w base dd room s a n c l) (k s' d1 d2 : Nat) (hk : k ≤ n) (hs : s' ≤ k) :
    Dev ((((w.drewN d1).setCell ⟨dd, 2, none⟩ (.slice a k c)).drewN d2).setCell ⟨dd, 1, none⟩ (.int .i64 s')) base dd room s' a k c (l.take k) := by
  have b1 : Blk (((w.drewN d1).setCell ⟨dd, 2, none⟩ (.slice a k c)).drewN d2) dd #[.int .i64 room, .int .i64 s, .slice a k c] 101 := ((h.blk.drewN d1).set 2 _).drewN d2
  refine ⟨b1.set 1 _, ?_, h.ge, hs, Nat.le_trans hk h.fit, h.most⟩
  refine (h.own.first k hk).of (fun i hi => ?_)
  have hne : i ≠ dd := fun e => h.ne (by rw [hi, e])
  rw [Below.heap_setCell _ ⟨dd, 1, none⟩ _ i hne]
  exact Below.heap_setCell (w.drewN d1) ⟨dd, 2, none⟩ _ i hne
theorem turned_store2 (w : World) (dd : Nat) (row : Option Nat) (v u : Value) (i j d1 d2 : Nat) : Turned w ((((w.drewN d1).setCell ⟨dd, i, none⟩ v).drewN d2).setCell ⟨dd, j, none⟩ u) dd row :=
  ((((Turned.refl w dd row).drewN d1).setCell i v).drewN d2).setCell j u

/-- How max and min reckon it. -/
theorem clamp_eqs (m : Int) (h : Nat) : ∃ x : Nat, (if m < 0 then 0 else m) = (x : Int) ∧ (if h < x then (h : Int) else (x : Int)) = (clampN m h : Nat) := by
  rcases clamp_ways m h with ⟨g0, gk⟩ | ⟨k, rfl, g0, gk⟩ | ⟨k, rfl, g0, gk⟩
  · exact ⟨0, by rw [if_pos g0]; rfl, by rw [gk, if_neg (by omega)]⟩
  · exact ⟨k, if_neg (by omega), by rw [gk, if_neg (by omega)]⟩
  · exact ⟨k, if_neg (by omega), by rw [gk, if_pos (by omega)]⟩
theorem min_eq (k s : Nat) : (if k < s then (k : Int) else (s : Int)) = (min s k : Nat) := by
  by_cases h : k < s
  · rw [if_pos (by omega)]; omega
  · rw [if_neg (by omega)]; omega

set_option maxRecDepth 100000 in
set_option maxHeartbeats 1000000 in
theorem cut_any {w : World} {base dd room s : Nat} {a : Option Addr} {n c : Nat} {l : List Int} (h : Dev w base dd room s a n c l) (m : Int) (m0 : -9223372036854775808 ≤ m) (m1 : m ≤ 9223372036854775807) :
    Calls Try.prog 64 #[.pointer (some ⟨dd, 0, none⟩), .int .i64 m] w fun e w' => e = .returned (.tuple #[]) ∧ Turned w w' dd none ∧ Dev w' base dd room (min s (clampN m n)) a (clampN m n) c (l.take (clampN m n)) := by
  have c1 := h.c1; have c2 := h.c2
  have f1 := h.blk.free 1; have f2 := h.blk.free 2
  have hfit := h.fit; have hmost := h.most; have hle := h.le; have hcap := h.own.bytes.cap; have hcm := h.own.bytes.most
  have HH := Lib.hid h
  have hkn := clampN_le m n
  have hD := h.store2 (clampN m n) (min s (clampN m n)) 1 1 hkn (Nat.min_le_right _ _)
  have hb1 : Blk ((w.drewN 1).setCell ⟨dd, 2, none⟩ (.slice a (clampN m n) c)) dd #[.int .i64 room, .int .i64 s, .slice a (clampN m n) c] 101 := (h.blk.drewN 1).set 2 _
  obtain ⟨x, hx, hk⟩ := clamp_eqs m n
  have hmin := min_eq (clampN m n) s
  have HD := Lib.hid hD; have HBl := Lib.hid hb1
  clear h hD hb1
  generalize min s (clampN m n) = s' at hmin HD
  generalize clampN m n = k at hkn hk hmin HD HBl
  have hkc : k ≤ c := by omega
  go_enter Try.func64, Try.ntmps64
  go_wp2_with fail
  go_still_tail 16, (by kernel_rfl)
  change wpList _ _ _ _ _ (w.drewN 1)
  go_wp2_with fail
  have g1 := HBl.out.cell 1
  have g2 := HBl.out.cell 2
  have k1 := HBl.out.free 1
  generalize hW1 : (w.drewN 1).setCell ⟨dd, 2, none⟩ (.slice a k c) = W1 at g1 g2 k1 ⊢
  have HW1 := Lib.hid hW1; clear hW1 c1 c2 f1 f2
  go_still_tail 15, (by kernel_rfl)
  change wpList _ _ _ _ _ (W1.drewN 1)
  go_wp2_with fail
  go_end0
  rw [← HW1.out]
  exact ⟨rfl, turned_store2 _ _ _ _ _ _ _ _ _, HW1.out ▸ HD.out⟩

/-- How long the bytes are behind a crash. -/
def kept (m : Int) (s n : Nat) : Nat := s + clampN m (n - s)

set_option maxRecDepth 100000 in
set_option maxHeartbeats 1000000 in
theorem crash_any {w : World} {base dd room s : Nat} {a : Option Addr} {n c : Nat} {l : List Int} (h : Dev w base dd room s a n c l) (m : Int) (m0 : -9223372036854775808 ≤ m) (m1 : m ≤ 9223372036854775807) :
    Calls Try.prog 45 #[.pointer (some ⟨dd, 0, none⟩), .int .i64 m] w fun e w' => e = .returned (.tuple #[]) ∧ Turned w w' dd none ∧ Dev w' base dd room (kept m s n) a (kept m s n) c (l.take (kept m s n)) := by
  have c1 := h.c1; have c2 := h.c2
  have f2 := h.blk.free 2
  have hfit := h.fit; have hmost := h.most; have hle := h.le; have hcap := h.own.bytes.cap; have hcm := h.own.bytes.most
  have hkn : kept m s n ≤ n := by have := clampN_le m (n - s); unfold kept; omega
  have hsk : s ≤ kept m s n := by unfold kept; omega
  have hD : ∀ d, Dev ((w.drewN d).setCell ⟨dd, 2, none⟩ (.slice a (kept m s n) c)) base dd room s a (kept m s n) c (l.take (kept m s n)) := fun d =>
    (h.drewN d).setBytes (h.blk.drewN d) ((h.own.drewN d).first (kept m s n) hkn) hsk (by omega)
  obtain ⟨x, hx, hk⟩ := clamp_eqs m (n - s)
  have hK : kept m s n = s + clampN m (n - s) := rfl
  have HD := Lib.hid hD
  clear h hD
  generalize kept m s n = k at hkn hsk hK HD ⊢
  generalize clampN m (n - s) = y at hk hK
  have hkc : k ≤ c := by omega
  obtain ⟨d, hd⟩ : ∃ d, n - s = d := ⟨_, rfl⟩
  rw [hd] at hk
  have z1 : IntKind.i64.wrap ((n : Int) - s) = (d : Int) := by rw [IntWalk.i64_in _ (by omega)]; omega
  have z2 : IntKind.i64.wrap ((s : Int) + y) = (k : Int) := by rw [IntWalk.i64_in _ (by omega)]; omega
  clear hK hd
  go_enter Try.func45, Try.ntmps45
  go_wp2_with fail
  go_quiet (fail)
  go_wp2_with fail
  have c1' : (w.drewN nq).cell? ⟨dd, 1, none⟩ = some (.int .i64 s) := c1
  have c2' : (w.drewN nq).cell? ⟨dd, 2, none⟩ = some (.slice a n c) := c2
  have f2' : (w.drewN nq).frozen? ⟨dd, 2, none⟩ = false := f2
  have HT : Hid (Turned w (w.drewN nq) dd none) := (Turned.refl _ _ _).drewN _
  have HD1 : Hid (Dev (((w.drewN nq).drewN 1).setCell ⟨dd, 2, none⟩ (.slice a k c)) base dd room s a k c (l.take k)) := by have := HD.out (nq + 1); rwa [← World.drewN_drewN] at this
  generalize w.drewN nq = V at c1' c2' f2' HT HD1 ⊢
  clear c1 c2 f2 HD
  go_still_tail 18, (by kernel_rfl)
  change wpList _ _ _ _ _ (V.drewN 1)
  go_wp2_with fail
  refine (sync_any HD1.out).mono ?_
  rintro e w' ⟨rfl, rfl⟩
  go_wp2
  go_end0
  exact ⟨rfl, ((HT.out.drewN 1).setCell 2 _).setCell 1 _, HD1.out.setSure k (Nat.le_refl _)⟩

/-- What an operation leaves. -/
def stE (room n : Nat) (k : Int) (m : Nat) : Int := if k = 0 then apE room n m else 0
def stL (room s : Nat) (l : List Int) (k : Int) (lb : List Int) (q : Int) : List Int :=
  if k = 0 then (if apE room l.length lb.length = 0 then l ++ lb else l) else if k = 1 then l else if k = 2 then l.take (kept q s l.length) else if k = 3 then l.take (clampN q l.length) else l
def stS (s : Nat) (l : List Int) (k : Int) (q : Int) : Nat := if k = 0 then s else if k = 1 then l.length else if k = 2 then kept q s l.length else if k = 3 then min s (clampN q l.length) else s

theorem do_nil (k : Int) (b : Option Addr) (m cb : Nat) (q : Int) (w : World) : Calls Try.prog 40 #[.pointer none, .agg #[.int .i64 k, .slice b m cb, .int .i64 q]] w fun e w' => e = .returned (.int .i64 (if k = 0 then nilE m else 0)) ∧ Below w.heap.size w w' := by
  have HB : Hid (Below w.heap.size w (w.alloc (.cells #[.int .i64 k, .slice b m cb, .int .i64 q] 68))) := (Below.refl _ _).alloc (Nat.le_refl _) _
  by_cases h0 : k = 0
  · subst h0
    rw [if_pos rfl]
    go_enter Try.func40, Try.ntmps40
    go_wp2_with fail
    refine (append_nil b m cb _).mono ?_
    rintro e w' ⟨rfl, d, rfl⟩
    go_wp2
    go_ret
    exact ⟨rfl, below_drewN HB.out _⟩
  · rw [if_neg h0]
    have d0 : (k == 0) = false := by rw [beq_eq_false_iff_ne]; exact h0
    clear h0
    by_cases h1 : k = 1
    · subst h1
      go_enter Try.func40, Try.ntmps40
      go_wp2_with fail
      refine (sync_nil _).mono ?_
      rintro e w' ⟨rfl, rfl⟩
      go_wp2
      go_ret
      exact ⟨rfl, HB.out⟩
    · have d1 : (k == 1) = false := by rw [beq_eq_false_iff_ne]; exact h1
      clear h1
      by_cases h2 : k = 2
      · subst h2
        go_enter Try.func40, Try.ntmps40
        go_wp2_with fail
        refine (crash_nil q _).mono ?_
        rintro e w' ⟨rfl, rfl⟩
        go_wp2
        go_ret
        exact ⟨rfl, HB.out⟩
      · have d2 : (k == 2) = false := by rw [beq_eq_false_iff_ne]; exact h2
        clear h2
        by_cases h3 : k = 3
        · subst h3
          go_enter Try.func40, Try.ntmps40
          go_wp2_with fail
          refine (cut_nil q _).mono ?_
          rintro e w' ⟨rfl, rfl⟩
          go_wp2
          go_ret
          exact ⟨rfl, HB.out⟩
        · have d3 : (k == 3) = false := by rw [beq_eq_false_iff_ne]; exact h3
          clear h3
          go_enter Try.func40, Try.ntmps40
          go_wp2
          go_ret
          exact ⟨rfl, HB.out⟩

theorem Turned.any {w w' : World} {dd : Nat} (h : Turned w w' dd none) (row : Option Nat) : Turned w w' dd row := ⟨h.os, h.tape, h.output, h.size, fun i hi hd _ => h.block i hi hd (by simp)⟩

def DoPost (w : World) (base dd room s : Nat) (a : Option Addr) (l : List Int) (k : Int) (lb : List Int) (q : Int) (e : Ending) (w' : World) : Prop :=
  e = .returned (.int .i64 (stE room l.length k lb.length)) ∧ Turned w w' dd (blockOf a) ∧ ∃ a' n' c', Dev w' base dd room (stS s l k q) a' n' c' (stL room s l k lb q) ∧ (blockOf a' = blockOf a ∨ ∃ g, blockOf a' = some g ∧ w.heap.size ≤ g)

set_option maxRecDepth 100000 in
set_option maxHeartbeats 1000000 in
theorem do_any {w : World} {base dd room s : Nat} {a : Option Addr} {n c : Nat} {l : List Int} (h : Dev w base dd room s a n c l) (k : Int) (b : Option Addr) (m cb : Nat) (lb : List Int) (q : Int) (hb : Bytes w b m cb lb) (hm : m ≤ 4611686018427387904) (q0 : -9223372036854775808 ≤ q) (q1 : q ≤ 9223372036854775807) (hbase : base ≤ w.heap.size) :
    Calls Try.prog 40 #[.pointer (some ⟨dd, 0, none⟩), .agg #[.int .i64 k, .slice b m cb, .int .i64 q]] w (DoPost w base dd room s a l k lb q) := by
  have HB : Hid (Below w.heap.size w (w.alloc (.cells #[.int .i64 k, .slice b m cb, .int .i64 q] 68))) := (Below.refl _ _).alloc (Nat.le_refl _) _
  have hn : n = l.length := h.own.len.symm
  have hlb : m = lb.length := hb.len.symm
  subst hn hlb
  have HH := Lib.hid h; have HHb := Lib.hid hb; clear h hb
  by_cases h0 : k = 0
  · subst h0
    have e1 : stE room l.length 0 lb.length = apE room l.length lb.length := rfl
    have e2 : stS s l 0 q = s := rfl
    have e3 : stL room s l 0 lb q = (if apE room l.length lb.length = 0 then l ++ lb else l) := rfl
    have E1 := Lib.hid e1; have E2 := Lib.hid e2; have E3 := Lib.hid e3
    clear e1 e2 e3
    go_enter Try.func40, Try.ntmps40
    go_wp2_with fail
    refine (append_any (HH.out.far HB.out) b _ cb lb (HHb.out.below HB.out) hm (Nat.le_trans hbase HB.out.size)).mono ?_
    rintro e w2 ⟨rfl, ht, a', n', c', hd, hat⟩
    have HT := Lib.hid ht; have HD := Lib.hid hd; have HA := Lib.hid hat
    clear ht hd hat
    go_wp2
    go_ret
    refine ⟨by rw [E1.out]; rfl, Turned.below_trans HB.out HT.out, a', n', c', by rw [E2.out, E3.out]; exact HD.out, ?_⟩
    rcases HA.out with h | ⟨g, h1, h2⟩
    · exact .inl h
    · exact .inr ⟨g, h1, Nat.le_trans HB.out.size h2⟩
  · have f0 : stE room l.length k lb.length = 0 := by unfold stE; rw [if_neg h0]
    have E1 := Lib.hid f0; clear f0
    have d0 : (k == 0) = false := by rw [beq_eq_false_iff_ne]; exact h0
    by_cases h1 : k = 1
    · subst h1
      have e2 : stS s l 1 q = l.length := rfl
      have e3 : stL room s l 1 lb q = l := rfl
      have E2 := Lib.hid e2; have E3 := Lib.hid e3
      clear e2 e3 h0 d0
      go_enter Try.func40, Try.ntmps40
      go_wp2_with fail
      refine (sync_any (HH.out.far HB.out)).mono ?_
      rintro e w' ⟨rfl, rfl⟩
      have HD := Lib.hid ((HH.out.far HB.out).setSure l.length (Nat.le_refl _))
      have HT : Hid (Turned w ((w.alloc (.cells #[.int .i64 1, .slice b lb.length cb, .int .i64 q] 68)).setCell ⟨dd, 1, none⟩ (.int .i64 l.length)) dd (blockOf a)) := (Turned.of_below HB.out _ _).setCell 1 _
      have hbx : Blk ((w.alloc (.cells #[.int .i64 1, .slice b lb.length cb, .int .i64 q] 68)).setCell ⟨dd, 1, none⟩ (.int .i64 l.length)) w.heap.size #[.int .i64 1, .slice b lb.length cb, .int .i64 q] 68 := (Blk.new w _ _).other _ _ (by have := HH.out.blk.lt; simp; omega)
      have g0 := hbx.cell 0
      generalize (w.alloc (.cells #[.int .i64 1, .slice b lb.length cb, .int .i64 q] 68)).setCell ⟨dd, 1, none⟩ (.int .i64 l.length) = V at HD HT g0 ⊢
      clear hbx
      go_wp2
      go_ret
      exact ⟨by rw [E1.out]; rfl, HT.out, _, _, _, by rw [E2.out, E3.out]; exact HD.out, .inl rfl⟩
    · have d1 : (k == 1) = false := by rw [beq_eq_false_iff_ne]; exact h1
      by_cases h2 : k = 2
      · subst h2
        have e2 : stS s l 2 q = kept q s l.length := rfl
        have e3 : stL room s l 2 lb q = l.take (kept q s l.length) := rfl
        have E2 := Lib.hid e2; have E3 := Lib.hid e3
        clear e2 e3 h0 d0 h1 d1
        go_enter Try.func40, Try.ntmps40
        go_wp2_with fail
        refine (crash_any (HH.out.far HB.out) q q0 q1).mono ?_
        rintro e w2 ⟨rfl, ht, hd⟩
        have HT := Lib.hid (Turned.any ht (blockOf a)); have HD := Lib.hid hd
        have hbx : Blk w2 w.heap.size #[.int .i64 2, .slice b lb.length cb, .int .i64 q] 68 := (Blk.new w _ _).of (ht.block _ (by simp) (by have := HH.out.blk.lt; omega) (by simp))
        have g0 := hbx.cell 0
        clear ht hd hbx
        go_wp2
        go_ret
        exact ⟨by rw [E1.out]; rfl, Turned.below_trans HB.out HT.out, _, _, _, by rw [E2.out, E3.out]; exact HD.out, .inl rfl⟩
      · have d2 : (k == 2) = false := by rw [beq_eq_false_iff_ne]; exact h2
        by_cases h3 : k = 3
        · subst h3
          have e2 : stS s l 3 q = min s (clampN q l.length) := rfl
          have e3 : stL room s l 3 lb q = l.take (clampN q l.length) := rfl
          have E2 := Lib.hid e2; have E3 := Lib.hid e3
          clear e2 e3 h0 d0 h1 d1 h2 d2
          go_enter Try.func40, Try.ntmps40
          go_wp2_with fail
          refine (cut_any (HH.out.far HB.out) q q0 q1).mono ?_
          rintro e w2 ⟨rfl, ht, hd⟩
          have HT := Lib.hid (Turned.any ht (blockOf a)); have HD := Lib.hid hd
          clear ht hd
          go_wp2
          go_ret
          exact ⟨by rw [E1.out]; rfl, Turned.below_trans HB.out HT.out, _, _, _, by rw [E2.out, E3.out]; exact HD.out, .inl rfl⟩
        · have d3 : (k == 3) = false := by rw [beq_eq_false_iff_ne]; exact h3
          have e2 : stS s l k q = s := by unfold stS; rw [if_neg h0, if_neg h1, if_neg h2, if_neg h3]
          have e3 : stL room s l k lb q = l := by unfold stL; rw [if_neg h0, if_neg h1, if_neg h2, if_neg h3]
          have E2 := Lib.hid e2; have E3 := Lib.hid e3
          clear e2 e3 h0 h1 h2 h3
          go_enter Try.func40, Try.ntmps40
          go_wp2
          go_ret
          exact ⟨by rw [E1.out]; rfl, Turned.of_below HB.out _ _, _, _, _, by rw [E2.out, E3.out]; exact HH.out.far HB.out, .inl rfl⟩
end Go.Proofs.Ytcncfljpbbpaoaa.dv
