/-
  Layer 46: growing, joining, splitting; frames.
-/
import Derived.Test.YtcncfljpbbpaoaaEntryBits
import Derived.Test.YtcncfljpbbpaoaaCut
import Derived.Lib.AppendZerosOnto
import Derived.Lib.SliceRun
import Derived.Lib.Walk
namespace Go.Proofs.Ytcncfljpbbpaoaa.en
open Go.ChangeShapes Go.WideShapes Go.ChangeAt Go.RowKit
open bs
set_option linter.unusedVariables false

set_option maxRecDepth 100000 in
set_option maxHeartbeats 400000 in
theorem grow_any (n : Nat) (h1 : 1 ≤ n) (hn : n ≤ 140737488355328) (w : World) : Calls Try.prog 76 #[.slice none 0 0, .int .i64 n] w (APost w w.heap.size 0 []) := by
  obtain ⟨i0, hi, hz0, hz1, hz2⟩ := info_parts (byteT).info
  have hck : 0 + (n - 0) = n := by omega
  have hrz : ∀ ty, (Builtin.append_ #[46, 3] ty #[.slice none 0 0, .int .i64 (n : Int)]).run Try.prog w =
      .ok (.slice (some ⟨w.heap.size, 0, none⟩) n (grownCap w n 0 5)) (w.drew.alloc (.cells (#[] ++ Builtin.zeroCells (Value.cells (.int .u8 0)) n ++ Builtin.zeroCells (Value.cells (.int .u8 0)) (grownCap w n 0 5 - n)) 5)) := fun ty => by
    have h := Lib.run_append_grow_zeros (P := Try.prog) w 46 3 ty 5 i0 (.int .u8 0) .i64 .i64 Try.underlying46 Try.underlying3 hi hz0 none 0 0 [] (run_firstCells_none w.drew i0.size 0 0 0) n (by omega) (by omega) (by omega) (by omega) (by rw [hz2]; omega)
      (by rw [Nat.zero_add]; exact growslice_fits (by omega) (by rw [hz2]; omega))
    rw [Nat.zero_add] at h
    exact h
  have hGn : n ≤ grownCap w n 0 5 := grownCap_ge w _ _ _
  have hGm : grownCap w n 0 5 ≤ maxLen := grownCap_le_maxLen w n 0 _ (by unfold maxLen; omega)
  generalize grownCap w n 0 5 = G at hrz hGn hGm
  have hG63 : G ≤ 9223372036854775807 := by unfold maxLen at hGm; omega
  have HG := Lib.hid hGm
  have HB : Hid (Below w.heap.size w (w.drew.alloc (.cells (#[] ++ Builtin.zeroCells (Value.cells (.int .u8 0)) n ++ Builtin.zeroCells (Value.cells (.int .u8 0)) (G - n)) 5))) := (Below.drew (Below.refl _ _)).alloc (Nat.le_refl _) _
  have HO : Hid (OwnB (w.drew.alloc (.cells (#[] ++ Builtin.zeroCells (Value.cells (.int .u8 0)) n ++ Builtin.zeroCells (Value.cells (.int .u8 0)) (G - n)) 5)) w.heap.size 5 (some ⟨w.heap.size, 0, none⟩) 0 G []) := by
    refine ⟨⟨by simp [cellsOf], .inr ⟨w.heap.size, G, _, rfl, Nat.le_refl _, heap_alloc_new w.drew _, Nat.zero_le _, hGm, ?_, ?_⟩⟩, by simp [AllB]⟩
    · simp only [Array.size_append, size_zeroCells, Array.size_empty]
      rw [show (Value.cells (.int .u8 0)).size = 1 from rfl]
      omega
    · simp [cellsOf]
  generalize w.drew.alloc (.cells (#[] ++ Builtin.zeroCells (Value.cells (.int .u8 0)) n ++ Builtin.zeroCells (Value.cells (.int .u8 0)) (G - n)) 5) = V at hrz HB HO
  have y0 : ¬ (n : Int) < 0 := by omega
  have y1 : 0 < (n : Int) := by omega
  clear hi hz0 hz1 hz2 hck hGm
  go_enter Try.func76, Try.ntmps76
  go_wp2_with (at_builtin; refine Lib.wpList_append_run _ rfl _ _ _ _ rfl _ _ rfl rfl _ _ (hrz _) ?_)
  go_ret
  exact ⟨_, _, rfl, HO.out, HB.out⟩

/-- The parts of a joining. -/
structure Part where
  a : Option Addr
  n : Nat
  c : Nat
  l : List Int
def tot (p : Nat → Part) : Nat → Nat
  | 0 => 0
  | k + 1 => tot p k + (p k).n
def cat (p : Nat → Part) : Nat → List Int
  | 0 => []
  | k + 1 => cat p k ++ (p k).l
theorem tot_le (p : Nat → Part) (k m : Nat) (h : k ≤ m) : tot p k ≤ tot p m := by
  induction m with
  | zero => rw [show k = 0 by omega]; exact Nat.le_refl _
  | succ m ih =>
    rcases Nat.lt_or_ge k (m + 1) with h1 | h1
    · exact Nat.le_trans (ih (by omega)) (Nat.le_add_right _ _)
    · rw [show k = m + 1 by omega]; exact Nat.le_refl _

set_option maxRecDepth 100000 in
set_option maxHeartbeats 1000000 in
theorem concat_any (p : Nat → Part) (b m c : Nat) (w : World) (hc : ∀ k, k < m → w.cell? ⟨b, k, none⟩ = some (.slice (p k).a (p k).n (p k).c)) (hp : ∀ k, k < m → Bytes w (p k).a (p k).n (p k).c (p k).l)
    (h1 : 1 ≤ tot p m) (hm : m ≤ 1000000) (hmc : m ≤ c) (hcc : c ≤ 9223372036854775807) (ht : tot p m ≤ 140737488355328) :
    Calls Try.prog 59 #[.slice (some ⟨b, 0, none⟩) m c] w (APost w w.heap.size (tot p m) (cat p m)) := by
  have HC := Lib.hid hc; have HP := Lib.hid hp
  have hle : ∀ k, k ≤ m → tot p k ≤ 140737488355328 := fun k hk => Nat.le_trans (tot_le p k m hk) ht
  have HL := Lib.hid hle
  clear hc hp hle
  go_enter Try.func59, Try.ntmps59
  go_wp2
  go_loop [3, 11] (fun t i => ∃ k : Nat, k ≤ m ∧ i = .int .i64 k ∧ t = .int .i64 (tot p k)) (fun _ i => m - (intOf i).toNat)
  case atStart => exact ⟨0, by omega, rfl, rfl⟩
  case round =>
    obtain ⟨k, hk, rfl, rfl⟩ := hrel
    by_cases hlt : k < m
    · have ck := HC.out k hlt
      have hs : tot p (k + 1) = tot p k + (p k).n := rfl
      have hL := HL.out (k + 1) hlt
      rw [hs] at hL
      have HS := Lib.hid hs
      clear hs
      have hcap := (HP.out k hlt).cap; have hmost := (HP.out k hlt).most
      obtain ⟨⟨ak, nk, ck', lk⟩, hpk⟩ : ∃ q, p k = q := ⟨_, rfl⟩
      rw [hpk] at ck hL hcap hmost
      have HPK := Lib.hid hpk
      clear hpk
      dsimp only at ck hL hcap hmost
      go_wp2
      go_round
      case rel => exact ⟨k + 1, by omega, by go_num, by rw [HS.out, HPK.out]; go_num⟩
      case measure => simp [intOf]; omega
    · obtain rfl : k = m := by omega
      have hL := HL.out k (Nat.le_refl _)
      go_wp2_with fail
      refine (grow_any (tot p k) h1 ht _).mono ?_
      rintro e w1 ⟨a1, c1, rfl, ho1, hb1⟩
      have HO1 := Lib.hid ho1; have HB1 := Lib.hid hb1
      clear ho1 hb1
      go_wp2
      go_loopw [6, 27] (fun v i wr => ∃ (j : Nat) (a2 : Option Addr) (c2 : Nat), j ≤ k ∧ i = .int .i64 j ∧ v = .slice a2 (tot p j) c2 ∧ Hid (OwnB wr w.heap.size 5 a2 (tot p j) c2 (cat p j)) ∧ Hid (Below w.heap.size w wr)) (fun _ i _ => k - (intOf i).toNat)
      case atStart => exact ⟨0, a1, c1, by omega, rfl, rfl, HO1.out, HB1.out⟩
      case round =>
        obtain ⟨j, a2, c2, hj, rfl, rfl, ho, hb⟩ := hrel
        by_cases hlt : j < k
        · have cj := HC.out j hlt
          rw [← hb.out.cell (World.block_lt_of_cell? w _ cj)] at cj
          have HPJ := Lib.hid ((HP.out j hlt).below hb.out)
          have hs : tot p (j + 1) = tot p j + (p j).n := rfl
          have hcs : cat p (j + 1) = cat p j ++ (p j).l := rfl
          have hL := HL.out (j + 1) hlt
          rw [hs] at hL
          have HS := Lib.hid hs; have HCS := Lib.hid hcs
          clear hs hcs
          obtain ⟨⟨ak, nk, ck', lk⟩, hpk⟩ : ∃ q, p j = q := ⟨_, rfl⟩
          rw [hpk] at cj hL HPJ HS HCS
          clear hpk
          dsimp only at cj hL HPJ HS HCS
          go_wp2_with (at_builtin; refine wpList_append_b byteT rfl _ _ rfl w.heap.size rfl ho.out rfl HPJ.out hL hb.out.size ?_)
          intro a3 c3 w3 ho3 hb3 _
          have HO3 := Lib.hid ho3; have HB3 := Lib.hid (hb.out.trans hb3)
          clear ho3 hb3
          go_wp2
          go_roundw
          case rel => exact ⟨j + 1, a3, c3, by omega, by go_num, by rw [HS.out], by rw [HS.out, HCS.out]; exact HO3, HB3⟩
          case measure => simp [intOf]; omega
        · obtain rfl : j = k := by omega
          go_wp2
          go_ret
          exact ⟨a2, c2, rfl, ho.out, hb.out⟩

def SRel (n : Nat) (w : World) (t i : Value) (wr : World) : Prop :=
  ∃ (k : Int) (m : Nat) (L : Array Value), i = .int .i64 k ∧ t = .int .i64 m ∧ wr = (w.alloc (.cells #[.int .u8 0, .int .u8 0, .int .u8 0, .int .u8 0] 93)).alloc (.cells L 93) ∧
    ((k = 3 ∧ m = n ∧ L = #[.int .u8 0, .int .u8 0, .int .u8 0, .int .u8 0]) ∨ (k = 2 ∧ m = n / 256 ∧ L = #[.int .u8 0, .int .u8 0, .int .u8 0, .int .u8 (n % 256 : Nat)]) ∨
     (k = 1 ∧ m = 0 ∧ L = #[.int .u8 0, .int .u8 0, .int .u8 (n / 256 : Nat), .int .u8 (n % 256 : Nat)]) ∨ (k = 0 ∧ m = 0 ∧ L = #[.int .u8 0, .int .u8 0, .int .u8 (n / 256 : Nat), .int .u8 (n % 256 : Nat)]) ∨
     (k = -1 ∧ m = 0 ∧ L = #[.int .u8 0, .int .u8 0, .int .u8 (n / 256 : Nat), .int .u8 (n % 256 : Nat)]))

set_option maxRecDepth 100000 in
set_option maxHeartbeats 1000000 in
theorem split_any (n : Nat) (hn : n ≤ 1025) (w : World) :
    Calls Try.prog 58 #[.int .i64 n] w fun e w' => e = .returned (.agg #[.int .u8 0, .int .u8 0, .int .u8 (n / 256 : Nat), .int .u8 (n % 256 : Nat)]) ∧ Below w.heap.size w w' := by
  go_enter Try.func58, Try.ntmps58
  go_wp2
  go_loopw [0, 4] (fun t i wr => SRel n w t i wr) (fun _ i _ => (intOf i + 1).toNat)
  case atStart => exact ⟨3, n, _, rfl, rfl, rfl, .inl ⟨rfl, rfl, rfl⟩⟩
  case round =>
    have hr := hrel
    unfold SRel at hr
    clear hrel
    obtain ⟨k, m, L, rfl, rfl, rfl, hr⟩ := hr
    rcases hr with ⟨rfl, rfl, rfl⟩ | ⟨rfl, rfl, rfl⟩ | ⟨rfl, rfl, rfl⟩ | ⟨rfl, rfl, rfl⟩ | ⟨rfl, rfl, rfl⟩
    · go_wp2
      go_roundw
      case rel => exact ⟨2, m / 256, _, rfl, by go_num, rfl, .inr (.inl ⟨rfl, rfl, by simp [u8_wrap]⟩)⟩
      case measure => simp [intOf]
    · go_wp2
      go_roundw
      case rel => exact ⟨1, 0, _, rfl, by rw [show (n : Int) / 256 / 256 = 0 by omega]; rfl, rfl, .inr (.inr (.inl ⟨rfl, rfl, by simp [u8_wrap]; omega⟩))⟩
      case measure => simp [intOf]
    · go_wp2
      go_roundw
      case rel => exact ⟨0, 0, _, rfl, rfl, rfl, .inr (.inr (.inr (.inl ⟨rfl, rfl, by simp [u8_wrap]⟩)))⟩
      case measure => simp [intOf]
    · go_wp2
      go_roundw
      case rel => exact ⟨-1, 0, _, rfl, rfl, rfl, .inr (.inr (.inr (.inr ⟨rfl, rfl, by simp [u8_wrap]⟩)))⟩
      case measure => simp [intOf]
    · go_wp2
      refine bodyPost_ret (v := .agg #[.int .u8 0, .int .u8 0, .int .u8 (n / 256 : Nat), .int .u8 (n % 256 : Nat)]) (by simp [results, Try.results58, go_sem]) rfl ⟨rfl, ?_⟩
      repeat refine Below.setCell ?_ (by simp) _
      exact ((Below.refl _ _).alloc (Nat.le_refl _) _).alloc (by simp) _

/-- What is wrong with a frame, as a number. -/
def frE (k : Int) (n t : Nat) : Int := if payE k n = 0 then (if t = 32 then 0 else 2) else payE k n
/-- A frame's bytes. -/
def frB (k : Int) (l tag : List Int) : List Int := [0, 0, (((l.length + 1) / 256 : Nat) : Int), (((l.length + 1) % 256 : Nat) : Int)] ++ ((k :: l) ++ tag)
def FPost (w : World) (k : Int) (l tag : List Int) (e : Ending) (w' : World) : Prop :=
  Below w.heap.size w w' ∧ ∃ (a : Option Addr) (m c : Nat) (r : List Int), e = .returned (.tuple #[.slice a m c, .int .i64 (frE k l.length tag.length)]) ∧ OwnB w' w.heap.size 5 a m c r ∧ r = (if frE k l.length tag.length = 0 then frB k l tag else [])
theorem payE_cases (k : Int) (n : Nat) : payE k n = 0 ∧ n ≤ 1024 ∧ 1 ≤ k ∧ k ≤ 3 ∨ payE k n = 3 ∨ payE k n = 23 := by
  unfold payE
  cases h : isK k
  · right; right; rfl
  · have hk : 1 ≤ k ∧ k ≤ 3 := by unfold isK at h; simpa using h
    by_cases hn : 1024 < n
    · right; left; simp [hn]
    · left; simp [hn]; omega

def three (p q r : Part) : Nat → Part
  | 0 => p
  | 1 => q
  | _ => r
theorem three_cells (W : World) (o : Obj) (p q r : Part) (k : Nat) (hk : k < 3) :
    ((W.alloc o).alloc (.cells #[.slice p.a p.n p.c, .slice q.a q.n q.c, .slice r.a r.n r.c] 46)).cell? ⟨W.heap.size + 1, k, none⟩ = some (.slice (three p q r k).a (three p q r k).n (three p q r k).c) := by
  have e : (W.alloc o).heap.size = W.heap.size + 1 := by simp
  rw [← e]
  rcases k with _ | _ | _ | k
  · simp [three]
  · simp [three]
  · simp [three]
  · omega
theorem three_bytes (V : World) (p q r : Part) (hp : Bytes V p.a p.n p.c p.l) (hq : Bytes V q.a q.n q.c q.l) (hr : Bytes V r.a r.n r.c r.l) (k : Nat) (hk : k < 3) : Bytes V (three p q r k).a (three p q r k).n (three p q r k).c (three p q r k).l := by
  rcases k with _ | _ | _ | k
  · exact hp
  · exact hq
  · exact hr
  · omega
theorem four_new (W : World) (x y : Int) (hx : 0 ≤ x ∧ x ≤ 255) (hy : 0 ≤ y ∧ y ≤ 255) : Bytes (W.alloc (.cells #[.int .u8 0, .int .u8 0, .int .u8 x, .int .u8 y] 93)) (some ⟨W.heap.size, 0, none⟩) 4 4 [0, 0, x, y] := by
  refine ⟨rfl, by omega, by omega, ?_, by simp, .inr ⟨_, 0, rfl, fun i hi => ?_⟩⟩
  · intro z hz
    simp only [List.mem_cons, List.not_mem_nil, or_false] at hz
    rcases hz with rfl | rfl | rfl | rfl <;> omega
  · rcases i with _ | _ | _ | _ | i
    · simp
    · simp
    · simp
    · simp
    · omega

set_option maxRecDepth 100000 in
set_option maxHeartbeats 2000000 in
theorem frame_any (k : Int) (a : Option Addr) (n c : Nat) (l : List Int) (a' : Option Addr) (n' c' : Nat) (tag : List Int) (w : World) (h : Bytes w a n c l) (h' : Bytes w a' n' c' tag) (k0 : -9223372036854775808 ≤ k) (k1 : k ≤ 9223372036854775807) :
    Calls Try.prog 30 #[.agg #[.int .i64 k, .slice a n c], .slice a' n' c'] w (FPost w k l tag) := by
  have hcap := h.cap; have hmost := h.most
  have hcap' := h'.cap; have hmost' := h'.most
  have hl := h.len; have hl' := h'.len
  subst hl hl'
  have HH := Lib.hid h; have HH' := Lib.hid h'
  clear h h'
  have hc := payE_cases k l.length
  by_cases hz : payE k l.length = 0
  · have hc1 : l.length ≤ 1024 ∧ 1 ≤ k ∧ k ≤ 3 := by
      rcases hc with ⟨_, h⟩ | h | h
      · exact h
      · omega
      · omega
    obtain ⟨hn, hk1, hk3⟩ := hc1
    have HZ := Lib.hid hz
    by_cases ht : tag.length = 32
    · have hE : frE k l.length tag.length = 0 := by unfold frE; rw [if_pos hz, if_pos ht]
      have HE := Lib.hid hE
      have HT := Lib.hid ht
      clear hE hc hz
      go_enter Try.func30, Try.ntmps30
      go_wp2_with fail
      refine (payload_any k a _ c l _ (HH.out.below ((Below.refl _ _).alloc (Nat.le_refl _) _)) k0 k1).mono ?_
      rintro e w1 ⟨hb1, a1, m1, c1, r1, rfl, ho1, hr1⟩
      rw [if_pos HZ.out] at hr1
      have hm1 : m1 = l.length + 1 := by rw [← ho1.len, hr1]; rfl
      subst hr1 hm1
      rw [HZ.out]
      rw [HT.out]
      have HO1 := Lib.hid ho1; have HB1 := Lib.hid (((Below.refl w.heap.size w).alloc (Nat.le_refl _) _).trans (hb1.mono (by simp)))
      have hs1 := hb1.size
      rw [World.size_alloc] at hs1
      clear ho1 hb1 ht
      go_wp2_with fail
      refine (split_any (l.length + 1) (by omega) _).mono ?_
      rintro e w2 ⟨rfl, hb2⟩
      have HB2 := Lib.hid (HB1.out.trans (hb2.mono HB1.out.size))
      have HO2 := Lib.hid (HO1.out.below hb2)
      have hs2 := Nat.le_trans hs1 hb2.size
      clear hb2
      go_wp2_with fail
      have hB3 : Below w2.heap.size w2 ((w2.alloc (.cells #[.int .u8 0, .int .u8 0, .int .u8 ((l.length + 1) / 256 : Nat), .int .u8 ((l.length + 1) % 256 : Nat)] 93)).alloc (.cells #[.slice (some ⟨w2.heap.size, 0, none⟩) 4 4, .slice a1 (l.length + 1) c1, .slice a' 32 c'] 46)) :=
        ((Below.refl _ _).alloc (Nat.le_refl _) _).alloc (by simp) _
      refine (concat_any (three ⟨some ⟨w2.heap.size, 0, none⟩, 4, 4, [0, 0, (((l.length + 1) / 256 : Nat) : Int), (((l.length + 1) % 256 : Nat) : Int)]⟩ ⟨a1, l.length + 1, c1, k :: l⟩ ⟨a', 32, c', tag⟩) _ 3 _ _ (three_cells w2 _ _ _ _)
        (three_bytes _ _ _ _ ((four_new w2 _ _ (by omega) (by omega)).below ((Below.refl _ _).alloc (Nat.le_refl _) _)) (HO2.out.bytes.below hB3) (by have := (HH'.out.below HB2.out).below hB3; rw [HT.out] at this; exact this)) (by simp only [tot, three]; omega) (by omega) (by omega) (by omega) (by simp only [tot, three]; omega)).mono ?_
      rintro e w3 ⟨a3, c3, rfl, ho3, hb3⟩
      have HO3 := Lib.hid (ho3.mono (Nat.le_trans HB2.out.size hB3.size)); have HB3 := Lib.hid ((HB2.out.trans (hB3.mono HB2.out.size)).trans (hb3.mono (Nat.le_trans HB2.out.size hB3.size)))
      clear ho3 hb3 hB3
      go_wp2
      go_ret2
      exact ⟨HB3.out, a3, _, c3, _, by rw [HE.out]; rfl, HO3.out, by rw [HE.out, if_pos rfl]; simp [cat, three, frB]⟩
    · have hE : frE k l.length tag.length = 2 := by unfold frE; rw [if_pos hz, if_neg ht]
      have HE := Lib.hid hE
      have d : ((tag.length : Int) != 32) = true := by rw [bne_iff_ne]; omega
      clear hE hc hz ht
      go_enter Try.func30, Try.ntmps30
      go_wp2_with fail
      refine (payload_any k a _ c l _ (HH.out.below ((Below.refl _ _).alloc (Nat.le_refl _) _)) k0 k1).mono ?_
      rintro e w1 ⟨hb1, a1, m1, c1, r1, rfl, ho1, hr1⟩
      rw [HZ.out]
      have HB1 := Lib.hid (((Below.refl w.heap.size w).alloc (Nat.le_refl _) _).trans (hb1.mono (by simp)))
      clear ho1 hb1 hr1
      go_wp2
      go_ret2
      exact ⟨HB1.out, none, 0, 0, [], by rw [HE.out]; rfl, OwnB.nil _ _ _, by rw [HE.out]; rfl⟩
  · have hE : frE k l.length tag.length = payE k l.length := by unfold frE; rw [if_neg hz]
    have d : (payE k l.length != 0) = true := by rw [bne_iff_ne]; exact hz
    have HE := Lib.hid hE
    have HZ := Lib.hid hz
    clear hE hz hc
    go_enter Try.func30, Try.ntmps30
    go_wp2_with fail
    refine (payload_any k a _ c l _ (HH.out.below ((Below.refl _ _).alloc (Nat.le_refl _) _)) k0 k1).mono ?_
    rintro e w1 ⟨hb1, a1, m1, c1, r1, rfl, ho1, hr1⟩
    have HB1 := Lib.hid (((Below.refl w.heap.size w).alloc (Nat.le_refl _) _).trans (hb1.mono (by simp)))
    clear ho1 hb1 hr1
    go_wp2
    go_ret2
    exact ⟨HB1.out, none, 0, 0, [], by rw [HE.out]; rfl, OwnB.nil _ _ _, by rw [HE.out, if_neg HZ.out]⟩

set_option maxRecDepth 100000 in
set_option maxHeartbeats 1000000 in
theorem awake_any (w : World) : Calls Try.prog 27 #[] w fun e w' => e = .returned (.bool true) ∧ Below w.heap.size w w' := by
  have HZ : Hid (payE 1 1 = 0) := by show payE 1 1 = 0; decide
  have HS : Hid (Bytes (w.alloc (.cells #[.int .u8 7] 5)) (some ⟨w.heap.size, 0, none⟩) 1 1 [7]) := Bytes.one w _ 7 (by omega)
  go_enter Try.func27, Try.ntmps27
  go_wp2_with fail
  refine (payload_any 1 _ 1 1 [7] _ HS.out (by omega) (by omega)).mono ?_
  rintro e w1 ⟨hb1, a1, m1, c1, r1, rfl, ho1, hr1⟩
  rw [if_pos HZ.out] at hr1
  have hm1 : m1 = 2 := by rw [← ho1.len, hr1]; rfl
  subst hr1 hm1
  rw [HZ.out]
  obtain ⟨b1, off1, rfl, hc1⟩ := ho1.bytes.at'.resolve_left (by omega)
  have e0 := hc1 0 (by omega)
  have e1 := hc1 1 (by omega)
  simp only [List.getD_cons_zero, List.getD_cons_succ, Nat.add_zero] at e0 e1
  have HB1 := Lib.hid (((Below.refl w.heap.size w).alloc (Nat.le_refl _) _).trans (hb1.mono (by simp)))
  have hm := ho1.bytes.cap
  clear ho1 hb1 hc1
  go_wp2_with fail
  go_ret
  exact ⟨rfl, HB1.out⟩
end Go.Proofs.Ytcncfljpbbpaoaa.en
