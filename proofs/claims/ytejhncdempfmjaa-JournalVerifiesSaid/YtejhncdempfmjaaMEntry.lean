/-
  Joined texts: EntryBits, EntryRead, EntryReadOk, EntryRef, EntryRefs, EntryRefK, EntryRefOk, EntryFrame, EntryLaw, EntryTorn, EntryBack.
-/
import Derived.Test.YtejhncdempfmjaaOwn
import Derived.Test.YtejhncdempfmjaaSame
import Derived.WalkLawsBesides
import Derived.WalkSpells
import Derived.Test.YtejhncdempfmjaaCut
import Derived.Deep.RegionHeldLaw
import Derived.Deep.RegionHeld
import Derived.IntWalk
import Derived.Deep.AppendLies
import Derived.Lib.AppendZerosOnto
import Derived.Lib.SliceRun
import Derived.Lib.Walk
import Derived.Test.YtejhncdempfmjaaOpens
/-
  Layer 46: small contracts: kinds, lengths, copies, payloads.
-/
namespace Go.Proofs.Ytejhncdempfmjaa.en
open Go.ChangeShapes Go.WideShapes Go.ChangeAt Go.RowKit
open bs
set_option linter.unusedVariables false

theorem byteT : ByteT Try.prog 22 5 := ⟨Try.underlying22, by kernel_rfl⟩
theorem u8_wrap (x : Int) : IntKind.u8.wrap x = x % 256 := by
  simp only [IntKind.wrap, IntKind.signed, IntKind.bits, Bool.false_and]
  exact if_neg (by simp)
/-- Are there entries of a kind? -/
def isK (k : Int) : Bool := decide (1 ≤ k ∧ k ≤ 3)
def APost (w : World) (base n : Nat) (l : List Int) (e : Ending) (w' : World) : Prop :=
  ∃ (a : Option Addr) (c : Nat), e = .returned (.slice a n c) ∧ OwnB w' base 5 a n c l ∧ Below base w w'

set_option maxHeartbeats 400000 in
theorem kind_any (k : Int) (w : World) : Calls Try.prog 82 #[.int .i64 k] w fun e w' => e = .returned (.bool (isK k)) ∧ w = w' := by
  by_cases h1 : k = 1
  · subst h1
    go_enter Try.func82, Try.ntmps82
    go_wp2
    go_ret
    exact ⟨rfl, rfl⟩
  · by_cases h2 : k = 2
    · subst h2
      go_enter Try.func82, Try.ntmps82
      go_wp2
      go_ret
      exact ⟨rfl, rfl⟩
    · by_cases h3 : k = 3
      · subst h3
        go_enter Try.func82, Try.ntmps82
        go_wp2
        go_ret
        exact ⟨rfl, rfl⟩
      · have d1 : (k == 1) = false := by simpa using h1
        have d2 : (k == 2) = false := by simpa using h2
        have d3 : (k == 3) = false := by simpa using h3
        have hk : isK k = false := by unfold isK; exact decide_eq_false (by omega)
        rw [hk]
        clear h1 h2 h3 hk
        go_enter Try.func82, Try.ntmps82
        go_wp2
        go_ret
        exact ⟨rfl, rfl⟩

set_option maxRecDepth 100000 in
set_option maxHeartbeats 400000 in
theorem clone_any (a : Option Addr) (n c : Nat) (l : List Int) (w : World) (h : Bytes w a n c l) (hn : n ≤ 140737488355328) : Calls Try.prog 68 #[.slice a n c] w (APost w w.heap.size n l) := by
  rcases Option.eq_none_or_eq_some a with rfl | ⟨ad, rfl⟩
  · have hc := h.nil rfl
    have hcap := h.cap
    obtain rfl : n = 0 := by omega
    subst hc
    have hl := List.eq_nil_of_length_eq_zero h.len
    subst hl
    clear h hcap
    have heq : ∀ W : World, (binOp .eql 22 (.slice none 0 0) (.slice none 0 0)).run Try.prog W = .ok (.bool true) W := fun W => Lib.run_eql_slice_nil W _ _ none 0 0 0 0 Try.underlying22
    go_enter Try.func68, Try.ntmps68
    go_wp2
    go_ret
    exact ⟨none, 0, rfl, OwnB.nil _ _ _, Below.refl _ _⟩
  · have HH := Lib.hid h
    have hcap := h.cap; have hmost := h.most
    clear h
    have heq : ∀ W : World, (binOp .eql 22 (.slice (some ad) n c) (.slice none 0 0)).run Try.prog W = .ok (.bool false) W := fun W => Lib.run_eql_slice_nil W _ _ (some ad) n c 0 0 Try.underlying22
    go_enter Try.func68, Try.ntmps68
    go_wp2_with (at_builtin; refine wpList_append_b byteT rfl _ _ rfl w.heap.size rfl (l := []) ?o1 rfl (l' := l) ?b1 ?_ ?_ ?_)
    case o1 => exact OwnB.made w _ _ [] _ rfl (Nat.le_refl _) (by simp [maxLen]) (by simp [AllB])
    case b1 => exact HH.out.below ((Below.refl _ _).alloc (Nat.le_refl _) _)
    all_goals try (first | omega | (simp; done))
    intro a2 c2 w2 ho2 hb2 _
    have HO := Lib.hid ho2; have HB := Lib.hid (((Below.refl w.heap.size w).alloc (Nat.le_refl _) _).trans hb2)
    clear ho2 hb2
    go_wp2
    go_ret
    refine ⟨a2, c2, ?_, ?_, HB.out⟩
    · first | rfl | (rw [Nat.zero_add])
    · have := HO.out
      first | exact this | simpa using this

/-- What four bytes tell. -/
def four (p q r s : Int) : Int := ((p * 256 + q) * 256 + r) * 256 + s

def JRel (p q r s : Int) (n i : Value) : Prop :=
  (i = .int .i64 0 ∧ n = .int .i64 0) ∨ (i = .int .i64 1 ∧ n = .int .i64 p) ∨ (i = .int .i64 2 ∧ n = .int .i64 (p * 256 + q)) ∨ (i = .int .i64 3 ∧ n = .int .i64 ((p * 256 + q) * 256 + r)) ∨ (i = .int .i64 4 ∧ n = .int .i64 (four p q r s))

set_option maxRecDepth 100000 in
set_option maxHeartbeats 400000 in
theorem joined_any (p q r s : Int) (w : World) (hp : 0 ≤ p ∧ p ≤ 255) (hq : 0 ≤ q ∧ q ≤ 255) (hr : 0 ≤ r ∧ r ≤ 255) (hs : 0 ≤ s ∧ s ≤ 255) :
    Calls Try.prog 90 #[.agg #[.int .u8 p, .int .u8 q, .int .u8 r, .int .u8 s]] w fun e w' => e = .returned (.int .i64 (four p q r s)) ∧ Below w.heap.size w w' := by
  obtain ⟨p0, p1⟩ := hp
  obtain ⟨q0, q1⟩ := hq
  obtain ⟨r0, r1⟩ := hr
  obtain ⟨s0, s1⟩ := hs
  have i0 : ∀ w, (Instr.index 116 (.agg #[.int .u8 p, .int .u8 q, .int .u8 r, .int .u8 s]) (.int .i64 0)).run Try.prog w = .ok (.int .u8 p) w := fun _ => by simp [Instr.index, asIntOf, go_sem]
  have i1 : ∀ w, (Instr.index 116 (.agg #[.int .u8 p, .int .u8 q, .int .u8 r, .int .u8 s]) (.int .i64 1)).run Try.prog w = .ok (.int .u8 q) w := fun _ => by simp [Instr.index, asIntOf, go_sem]
  have i2 : ∀ w, (Instr.index 116 (.agg #[.int .u8 p, .int .u8 q, .int .u8 r, .int .u8 s]) (.int .i64 2)).run Try.prog w = .ok (.int .u8 r) w := fun _ => by simp [Instr.index, asIntOf, go_sem]
  have i3 : ∀ w, (Instr.index 116 (.agg #[.int .u8 p, .int .u8 q, .int .u8 r, .int .u8 s]) (.int .i64 3)).run Try.prog w = .ok (.int .u8 s) w := fun _ => by simp [Instr.index, asIntOf, go_sem]
  go_enter Try.func90, Try.ntmps90
  go_wp2_with fail
  go_loop [3, 7] (fun n i => JRel p q r s n i) (fun _ i => (4 - intOf i).toNat)
  case atStart => exact .inl ⟨rfl, rfl⟩
  case round =>
    have hr := hrel
    unfold JRel at hr
    clear hrel
    rcases hr with ⟨rfl, rfl⟩ | ⟨rfl, rfl⟩ | ⟨rfl, rfl⟩ | ⟨rfl, rfl⟩ | ⟨rfl, rfl⟩
    · go_wp2
      go_round
      case rel => exact .inr (.inl ⟨rfl, rfl⟩)
      case measure => simp [intOf]
    · go_wp2
      go_round
      case rel => exact .inr (.inr (.inl ⟨rfl, rfl⟩))
      case measure => simp [intOf]
    · go_wp2
      go_round
      case rel => exact .inr (.inr (.inr (.inl ⟨rfl, rfl⟩)))
      case measure => simp [intOf]
    · go_wp2
      go_round
      case rel => exact .inr (.inr (.inr (.inr ⟨rfl, rfl⟩)))
      case measure => simp [intOf]
    · go_wp2
      go_ret
      exact ⟨rfl, (Below.refl _ _).alloc (Nat.le_refl _) _⟩

/-- What is wrong with an entry, as a number. -/
def payE (k : Int) (n : Nat) : Int := if isK k then (if 1024 < n then 3 else 0) else 23
def PPost (w : World) (k : Int) (n : Nat) (l : List Int) (e : Ending) (w' : World) : Prop :=
  Below w.heap.size w w' ∧ ∃ (a : Option Addr) (m c : Nat) (r : List Int), e = .returned (.tuple #[.slice a m c, .int .i64 (payE k n)]) ∧ OwnB w' w.heap.size 5 a m c r ∧ r = (if payE k n = 0 then k :: l else [])

set_option maxRecDepth 100000 in
set_option maxHeartbeats 1000000 in
theorem payload_any (k : Int) (a : Option Addr) (n c : Nat) (l : List Int) (w : World) (h : Bytes w a n c l) (k0 : -9223372036854775808 ≤ k) (k1 : k ≤ 9223372036854775807) :
    Calls Try.prog 53 #[.agg #[.int .i64 k, .slice a n c]] w (PPost w k n l) := by
  have HH := Lib.hid h
  have hcap := h.cap; have hmost := h.most
  clear h
  rcases Bool.eq_false_or_eq_true (isK k) with hk | hk
  · by_cases hn : 1024 < n
    · have hE : payE k n = 3 := by unfold payE; rw [hk, if_pos rfl, if_pos hn]
      have HE := Lib.hid hE; have HK := Lib.hid hk
      clear hE hk
      go_enter Try.func53, Try.ntmps53
      go_wp2_with fail
      refine (kind_any k _).mono ?_
      rintro e w' ⟨rfl, rfl⟩
      rw [HK.out]
      go_wp2
      go_ret2
      exact ⟨(Below.refl _ _).alloc (Nat.le_refl _) _, none, 0, 0, [], by rw [HE.out]; rfl, OwnB.nil _ _ _, by rw [HE.out]; rfl⟩
    · have hE : payE k n = 0 := by unfold payE; rw [hk, if_pos rfl, if_neg hn]
      have hkb : 1 ≤ k ∧ k ≤ 3 := by simpa [isK] using hk
      obtain ⟨b0, b1⟩ := hkb
      have HE := Lib.hid hE; have HK := Lib.hid hk
      clear hE hk
      go_enter Try.func53, Try.ntmps53
      go_wp2_with fail
      refine (kind_any k _).mono ?_
      rintro e w' ⟨rfl, rfl⟩
      rw [HK.out]
      go_wp2_with (at_builtin; refine wpList_append_b byteT rfl _ _ rfl w.heap.size rfl (l := [k]) ?o1 rfl (l' := l) ?b1 ?_ ?_ ?_)
      case o1 => simpa using OwnB.made (w.alloc (.cells #[.int .i64 k, .slice a n c] 35)) w.heap.size 5 [k] #[.int .u8 k] rfl (by simp) (by simp [maxLen]) (by simp [AllB]; omega)
      case b1 => exact HH.out.below (((Below.refl _ _).alloc (Nat.le_refl _) _).alloc (by simp) _)
      all_goals try (first | omega | (simp; done) | (simp; omega))
      intro a2 c2 w2 ho2 hb2 _
      have HO := Lib.hid ho2; have HB := Lib.hid ((((Below.refl w.heap.size w).alloc (Nat.le_refl _) _).alloc (by simp) _).trans hb2)
      clear ho2 hb2
      go_wp2
      go_ret2
      exact ⟨HB.out, a2, _, c2, k :: l, by rw [HE.out]; rfl, HO.out, by rw [HE.out]; rfl⟩
  · have hE : payE k n = 23 := by unfold payE; rw [hk]; rfl
    have HE := Lib.hid hE; have HK := Lib.hid hk
    clear hE hk
    go_enter Try.func53, Try.ntmps53
    go_wp2_with fail
    refine (kind_any k _).mono ?_
    rintro e w' ⟨rfl, rfl⟩
    rw [HK.out]
    go_wp2
    go_ret2
    exact ⟨(Below.refl _ _).alloc (Nat.le_refl _) _, none, 0, 0, [], by rw [HE.out]; rfl, OwnB.nil _ _ _, by rw [HE.out]; rfl⟩

set_option maxRecDepth 100000 in
set_option maxHeartbeats 1000000 in
theorem rpayload_any (k : Int) (a : Option Addr) (n c : Nat) (l : List Int) (w : World) (h : Bytes w a n c l) (k0 : -9223372036854775808 ≤ k) (k1 : k ≤ 9223372036854775807) :
    Calls Try.prog 50 #[.agg #[.int .i64 k, .slice a n c]] w (PPost w k n l) := by
  have HH := Lib.hid h
  have hcap := h.cap; have hmost := h.most
  clear h
  by_cases h1 : k < 1
  · have hE : payE k n = 23 := by unfold payE isK; rw [decide_eq_false (by omega)]; rfl
    have HE := Lib.hid hE
    clear hE
    go_enter Try.func50, Try.ntmps50
    go_wp2
    go_ret2
    refine ⟨((Below.refl _ _).alloc (Nat.le_refl _) _).alloc (by simp) _, _, 0, 0, [], by rw [HE.out]; rfl, ?_, by rw [HE.out]; rfl⟩
    simpa using OwnB.made (w.alloc (.cells #[.int .i64 k, .slice a n c] 35)) w.heap.size 5 [] #[] rfl (by simp) (by simp [maxLen]) (by simp [AllB])
  · have d1 : decide (k < 1) = false := decide_eq_false h1
    by_cases h3 : 3 < k
    · have hE : payE k n = 23 := by unfold payE isK; rw [decide_eq_false (by omega)]; rfl
      have HE := Lib.hid hE
      clear hE h1
      go_enter Try.func50, Try.ntmps50
      go_wp2
      go_ret2
      refine ⟨((Below.refl _ _).alloc (Nat.le_refl _) _).alloc (by simp) _, _, 0, 0, [], by rw [HE.out]; rfl, ?_, by rw [HE.out]; rfl⟩
      simpa using OwnB.made (w.alloc (.cells #[.int .i64 k, .slice a n c] 35)) w.heap.size 5 [] #[] rfl (by simp) (by simp [maxLen]) (by simp [AllB])
    · have d2 : decide (3 < k) = false := decide_eq_false h3
      have hk : isK k = true := by unfold isK; exact decide_eq_true (by omega)
      have b0 : 1 ≤ k := by omega
      have b1 : k ≤ 3 := by omega
      by_cases hn : 1024 < n
      · have hE : payE k n = 3 := by unfold payE; rw [hk, if_pos rfl, if_pos hn]
        have HE := Lib.hid hE
        clear hE h1 h3 hk
        go_enter Try.func50, Try.ntmps50
        go_wp2
        go_ret2
        refine ⟨((Below.refl _ _).alloc (Nat.le_refl _) _).alloc (by simp) _, _, 0, 0, [], by rw [HE.out]; rfl, ?_, by rw [HE.out]; rfl⟩
        simpa using OwnB.made (w.alloc (.cells #[.int .i64 k, .slice a n c] 35)) w.heap.size 5 [] #[] rfl (by simp) (by simp [maxLen]) (by simp [AllB])
      · have hE : payE k n = 0 := by unfold payE; rw [hk, if_pos rfl, if_neg hn]
        have HE := Lib.hid hE
        clear hE h1 h3 hk
        go_enter Try.func50, Try.ntmps50
        go_wp2_with (at_builtin; refine wpList_append_b byteT rfl _ _ rfl w.heap.size rfl (l := [k]) ?o1 rfl (l' := l) ?b1 ?_ ?_ ?_)
        case o1 => simpa using OwnB.made (w.alloc (.cells #[.int .i64 k, .slice a n c] 35)) w.heap.size 5 [k] #[.int .u8 k] rfl (by simp) (by simp [maxLen]) (by simp [AllB]; omega)
        case b1 => exact HH.out.below (((Below.refl _ _).alloc (Nat.le_refl _) _).alloc (by simp) _)
        all_goals try (first | omega | (simp; done) | (simp; omega))
        intro a2 c2 w2 ho2 hb2 _
        have HO := Lib.hid ho2; have HB := Lib.hid ((((Below.refl w.heap.size w).alloc (Nat.le_refl _) _).alloc (by simp) _).trans hb2)
        clear ho2 hb2
        go_wp2
        go_ret2
        exact ⟨HB.out, a2, _, c2, k :: l, by rw [HE.out]; rfl, HO.out, by rw [HE.out]; rfl⟩

end Go.Proofs.Ytejhncdempfmjaa.en

/-
  Layer 46: the contract of the program's 'Read'.
-/
namespace Go.Proofs.Ytejhncdempfmjaa.en
open Go.ChangeShapes Go.WideShapes Go.ChangeAt Go.RowKit
open bs
set_option linter.unusedVariables false

/-- What a frame that begins with these bytes tells: its payload's length. -/
def sz (m : List Int) : Int := four (m.getD 0 0) (m.getD 1 0) (m.getD 2 0) (m.getD 3 0)
/-- What is wrong with the bytes from a place on, as a number. -/
def rdE (l : List Int) (p : Int) : Int :=
  if p < 0 ∨ (l.length : Int) < p then 13
  else if (l.length : Int) - p < 4 then 1
  else if sz (l.drop p.toNat) = 0 then 2
  else if 1025 < sz (l.drop p.toNat) then 3
  else if (l.length : Int) - p < 4 + sz (l.drop p.toNat) + 32 then 1
  else if isK ((l.drop p.toNat).getD 4 0) then 0
  else 23
/-- The four results, whose parts the call made itself. -/
def RPost (l : List Int) (p : Int) (w : World) (e : Ending) (w' : World) : Prop :=
  Below w.heap.size w w' ∧ ∃ (k to : Int) (a1 a2 : Option Addr) (n1 c1 n2 c2 : Nat) (body tag : List Int),
    e = .returned (.tuple #[.agg #[.int .i64 k, .slice a1 n1 c1], .slice a2 n2 c2, .int .i64 to, .int .i64 (rdE l p)]) ∧ OwnB w' w.heap.size 5 a1 n1 c1 body ∧ OwnB w' w.heap.size 5 a2 n2 c2 tag ∧
    (rdE l p ≠ 0 → k = 0 ∧ body = [] ∧ tag = [] ∧ to = 0) ∧
    (rdE l p = 0 → k = (l.drop p.toNat).getD 4 0 ∧ body = ((l.drop p.toNat).drop 5).take ((sz (l.drop p.toNat)).toNat - 1) ∧ tag = ((l.drop p.toNat).drop (4 + (sz (l.drop p.toNat)).toNat)).take 32 ∧ to = p + 36 + sz (l.drop p.toNat))

set_option maxRecDepth 100000 in
set_option maxHeartbeats 2000000 in
theorem read_range (a : Option Addr) (n c : Nat) (l : List Int) (p : Int) (w : World) (h : Bytes w a n c l) (p0 : -9223372036854775808 ≤ p) (p1 : p ≤ 9223372036854775807) (hp : p < 0 ∨ (n : Int) < p) :
    Calls Try.prog 70 #[.slice a n c, .int .i64 p] w (RPost l p w) := by
  have hlen := h.len
  subst hlen
  have hcap := h.cap; have hmost := h.most
  have hE : rdE l p = 13 := by unfold rdE; rw [if_pos hp]
  have HE := Lib.hid hE
  clear h hE
  by_cases h0 : p < 0
  · clear hp
    go_enter Try.func70, Try.ntmps70
    go_wp2
    refine bodyPost_ret (v := .tuple #[.agg #[.int .i64 0, .slice none 0 0], .slice none 0 0, .int .i64 0, .int .i64 13]) (by simp [results, Try.results70, go_sem]) rfl ?_
    refine ⟨?_, 0, 0, none, none, 0, 0, 0, 0, [], [], by rw [HE.out], OwnB.nil _ _ _, OwnB.nil _ _ _, fun _ => ⟨rfl, rfl, rfl, rfl⟩, fun h => by rw [HE.out] at h; omega⟩
    repeat refine Below.setCell ?_ (by simp) _
    exact (Below.refl _ _).alloc (Nat.le_refl _) _
  · have h1 : (l.length : Int) < p := by omega
    have d0 : decide (p < 0) = false := decide_eq_false h0
    clear hp
    go_enter Try.func70, Try.ntmps70
    go_wp2
    refine bodyPost_ret (v := .tuple #[.agg #[.int .i64 0, .slice none 0 0], .slice none 0 0, .int .i64 0, .int .i64 13]) (by simp [results, Try.results70, go_sem]) rfl ?_
    refine ⟨?_, 0, 0, none, none, 0, 0, 0, 0, [], [], by rw [HE.out], OwnB.nil _ _ _, OwnB.nil _ _ _, fun _ => ⟨rfl, rfl, rfl, rfl⟩, fun h => by rw [HE.out] at h; omega⟩
    repeat refine Below.setCell ?_ (by simp) _
    exact (Below.refl _ _).alloc (Nat.le_refl _) _

set_option maxRecDepth 100000 in
set_option maxHeartbeats 2000000 in
theorem read_zero (a : Option Addr) (n c : Nat) (l : List Int) (i : Nat) (w : World) (h : Bytes w a n c l) (hn : n ≤ 4611686018427387904) (hi : i + 4 ≤ n) (h0 : sz (l.drop i) = 0) :
    Calls Try.prog 70 #[.slice a n c, .int .i64 i] w (RPost l i w) := by
  have hlen := h.len
  subst hlen
  have hcap := h.cap; have hmost := h.most
  have hbs := (tail_bytes h i (by omega)).all
  have hb0 := hbs.getD 0; have hb1 := hbs.getD 1; have hb2 := hbs.getD 2; have hb3 := hbs.getD 3; have hb4 := hbs.getD 4
  have hE : rdE l i = 2 := by
    unfold rdE
    rw [if_neg (by omega), if_neg (by omega), Int.toNat_natCast]
    rw [if_pos h0]
  obtain ⟨b, off, rfl, hcell⟩ := h.at'.resolve_left (by omega)
  have hd : ∀ j, (l.drop i).getD j 0 = l.getD (i + j) 0 := fun j => by rw [List.getD_eq_getElem?_getD, List.getD_eq_getElem?_getD, List.getElem?_drop]
  have hc' : ∀ j, i + j < l.length → w.cell? ⟨b, off + i + j, none⟩ = some (.int .u8 ((l.drop i).getD j 0)) := fun j hj => by rw [Nat.add_assoc, hcell (i + j) hj, hd]
  have e0 := hc' 0 (by omega)
  have e1 := hc' 1 (by omega)
  have e2 := hc' 2 (by omega)
  have e3 := hc' 3 (by omega)

  rw [Nat.add_zero] at e0
  have HE := Lib.hid hE
  have hS : sz (l.drop i) = four ((l.drop i).getD 0 0) ((l.drop i).getD 1 0) ((l.drop i).getD 2 0) ((l.drop i).getD 3 0) := rfl
  have HC := Lib.hid hc'
  have HH := Lib.hid h
  generalize (l.drop i).getD 0 0 = q0 at e0 hb0 hS
  generalize (l.drop i).getD 1 0 = q1 at e1 hb1 hS
  generalize (l.drop i).getD 2 0 = q2 at e2 hb2 hS
  generalize (l.drop i).getD 3 0 = q3 at e3 hb3 hS
  have HS := Lib.hid hS
  have d0 : decide ((i : Int) < 0) = false := decide_eq_false (by omega)
  have d1 : decide ((l.length : Int) < (i : Int)) = false := decide_eq_false (by omega)
  have x1 : ¬ c = i := by omega
  have d2 : ¬ ((l.length - i : Nat) : Int) < 4 := by omega
  have harr : ∀ W : World, (Instr.arrayAt 116 (.slice (some ⟨b, off + i, none⟩) (l.length - i) (c - i))).run Try.prog W = .ok (.pointer (some ⟨b, off + i, none⟩)) W := fun W => by
    have : ¬ l.length - i < 4 := by omega
    simp [Instr.arrayAt, go_sem, this]
  have hcw : ∀ (o : Obj) (p : Addr) (v : Value), w.cell? p = some v → (w.alloc o).cell? p = some v := fun o p v h => by rw [((Below.refl w.heap.size w).alloc (Nat.le_refl _) o).cell (World.block_lt_of_cell? w _ h)]; exact h
  have a0 := hcw (.cells #[.int .i64 0, .slice none 0 0] 35) _ _ e0
  have a1 := hcw (.cells #[.int .i64 0, .slice none 0 0] 35) _ _ e1
  have a2 := hcw (.cells #[.int .i64 0, .slice none 0 0] 35) _ _ e2
  have a3 := hcw (.cells #[.int .i64 0, .slice none 0 0] 35) _ _ e3
  have HCW := Lib.hid hcw
  clear h hbs hE hd hcell hc' hS hcw hb4
  go_enter Try.func70, Try.ntmps70
  go_wp2_with fail
  refine (joined_any q0 q1 q2 q3 _ hb0 hb1 hb2 hb3).mono ?_
  rintro e w1 ⟨rfl, hb⟩
  have HB := Lib.hid ((((Below.refl w.heap.size w).alloc (Nat.le_refl _) _)).trans (hb.mono (by simp)))
  have f0 : w1.frozen? ⟨w.heap.size, 0, none⟩ = false := by rw [hb.frozen (p := ⟨w.heap.size, 0, none⟩) (by simp)]; simp
  have k0 : w1.cell? ⟨w.heap.size, 0, none⟩ = some (.int .i64 0) := by rw [hb.cell (p := ⟨w.heap.size, 0, none⟩) (by simp)]; simp
  have f1 : w1.frozen? ⟨w.heap.size, 1, none⟩ = false := by rw [hb.frozen (p := ⟨w.heap.size, 1, none⟩) (by simp)]; simp
  have k1 : w1.cell? ⟨w.heap.size, 1, none⟩ = some (.slice none 0 0) := by rw [hb.cell (p := ⟨w.heap.size, 1, none⟩) (by simp)]; simp
  have hS0 : 0 ≤ sz (l.drop i) := by rw [HS.out]; unfold four; omega
  have hS1 : sz (l.drop i) ≤ 4294967295 := by rw [HS.out]; unfold four; omega
  rw [← HS.out]
  clear hb e0 e1 e2 e3 a0 a1 a2 a3 harr HS hb0 hb1 hb2 hb3
  generalize sz (l.drop i) = S at *
  subst h0
  go_wp2
  refine bodyPost_ret (v := .tuple #[.agg #[.int .i64 0, .slice none 0 0], .slice none 0 0, .int .i64 0, .int .i64 2]) (by simp [results, Try.results70, go_sem, k0, k1]) rfl ?_
  refine ⟨?_, 0, 0, none, none, 0, 0, 0, 0, [], [], by rw [HE.out], OwnB.nil _ _ _, OwnB.nil _ _ _, fun _ => ⟨rfl, rfl, rfl, rfl⟩, fun h => by rw [HE.out] at h; omega⟩
  repeat refine Below.setCell ?_ (by simp) _
  exact HB.out

set_option maxRecDepth 100000 in
set_option maxHeartbeats 2000000 in
theorem read_long (a : Option Addr) (n c : Nat) (l : List Int) (i : Nat) (w : World) (h : Bytes w a n c l) (hn : n ≤ 4611686018427387904) (hi : i + 4 ≤ n) (h0 : 1025 < sz (l.drop i)) :
    Calls Try.prog 70 #[.slice a n c, .int .i64 i] w (RPost l i w) := by
  have hlen := h.len
  subst hlen
  have hcap := h.cap; have hmost := h.most
  have hbs := (tail_bytes h i (by omega)).all
  have hb0 := hbs.getD 0; have hb1 := hbs.getD 1; have hb2 := hbs.getD 2; have hb3 := hbs.getD 3; have hb4 := hbs.getD 4
  have hE : rdE l i = 3 := by
    unfold rdE
    rw [if_neg (by omega), if_neg (by omega), Int.toNat_natCast]
    rw [if_neg (by omega), if_pos h0]
  obtain ⟨b, off, rfl, hcell⟩ := h.at'.resolve_left (by omega)
  have hd : ∀ j, (l.drop i).getD j 0 = l.getD (i + j) 0 := fun j => by rw [List.getD_eq_getElem?_getD, List.getD_eq_getElem?_getD, List.getElem?_drop]
  have hc' : ∀ j, i + j < l.length → w.cell? ⟨b, off + i + j, none⟩ = some (.int .u8 ((l.drop i).getD j 0)) := fun j hj => by rw [Nat.add_assoc, hcell (i + j) hj, hd]
  have e0 := hc' 0 (by omega)
  have e1 := hc' 1 (by omega)
  have e2 := hc' 2 (by omega)
  have e3 := hc' 3 (by omega)

  rw [Nat.add_zero] at e0
  have HE := Lib.hid hE
  have hS : sz (l.drop i) = four ((l.drop i).getD 0 0) ((l.drop i).getD 1 0) ((l.drop i).getD 2 0) ((l.drop i).getD 3 0) := rfl
  have HC := Lib.hid hc'
  have HH := Lib.hid h
  generalize (l.drop i).getD 0 0 = q0 at e0 hb0 hS
  generalize (l.drop i).getD 1 0 = q1 at e1 hb1 hS
  generalize (l.drop i).getD 2 0 = q2 at e2 hb2 hS
  generalize (l.drop i).getD 3 0 = q3 at e3 hb3 hS
  have HS := Lib.hid hS
  have d0 : decide ((i : Int) < 0) = false := decide_eq_false (by omega)
  have d1 : decide ((l.length : Int) < (i : Int)) = false := decide_eq_false (by omega)
  have x1 : ¬ c = i := by omega
  have d2 : ¬ ((l.length - i : Nat) : Int) < 4 := by omega
  have harr : ∀ W : World, (Instr.arrayAt 116 (.slice (some ⟨b, off + i, none⟩) (l.length - i) (c - i))).run Try.prog W = .ok (.pointer (some ⟨b, off + i, none⟩)) W := fun W => by
    have : ¬ l.length - i < 4 := by omega
    simp [Instr.arrayAt, go_sem, this]
  have hcw : ∀ (o : Obj) (p : Addr) (v : Value), w.cell? p = some v → (w.alloc o).cell? p = some v := fun o p v h => by rw [((Below.refl w.heap.size w).alloc (Nat.le_refl _) o).cell (World.block_lt_of_cell? w _ h)]; exact h
  have a0 := hcw (.cells #[.int .i64 0, .slice none 0 0] 35) _ _ e0
  have a1 := hcw (.cells #[.int .i64 0, .slice none 0 0] 35) _ _ e1
  have a2 := hcw (.cells #[.int .i64 0, .slice none 0 0] 35) _ _ e2
  have a3 := hcw (.cells #[.int .i64 0, .slice none 0 0] 35) _ _ e3
  have HCW := Lib.hid hcw
  clear h hbs hE hd hcell hc' hS hcw hb4
  go_enter Try.func70, Try.ntmps70
  go_wp2_with fail
  refine (joined_any q0 q1 q2 q3 _ hb0 hb1 hb2 hb3).mono ?_
  rintro e w1 ⟨rfl, hb⟩
  have HB := Lib.hid ((((Below.refl w.heap.size w).alloc (Nat.le_refl _) _)).trans (hb.mono (by simp)))
  have f0 : w1.frozen? ⟨w.heap.size, 0, none⟩ = false := by rw [hb.frozen (p := ⟨w.heap.size, 0, none⟩) (by simp)]; simp
  have k0 : w1.cell? ⟨w.heap.size, 0, none⟩ = some (.int .i64 0) := by rw [hb.cell (p := ⟨w.heap.size, 0, none⟩) (by simp)]; simp
  have f1 : w1.frozen? ⟨w.heap.size, 1, none⟩ = false := by rw [hb.frozen (p := ⟨w.heap.size, 1, none⟩) (by simp)]; simp
  have k1 : w1.cell? ⟨w.heap.size, 1, none⟩ = some (.slice none 0 0) := by rw [hb.cell (p := ⟨w.heap.size, 1, none⟩) (by simp)]; simp
  have hS0 : 0 ≤ sz (l.drop i) := by rw [HS.out]; unfold four; omega
  have hS1 : sz (l.drop i) ≤ 4294967295 := by rw [HS.out]; unfold four; omega
  rw [← HS.out]
  clear hb e0 e1 e2 e3 a0 a1 a2 a3 harr HS hb0 hb1 hb2 hb3
  generalize sz (l.drop i) = S at *
  have z0 : (S == 0) = false := by rw [beq_eq_false_iff_ne]; omega
  go_wp2
  refine bodyPost_ret (v := .tuple #[.agg #[.int .i64 0, .slice none 0 0], .slice none 0 0, .int .i64 0, .int .i64 3]) (by simp [results, Try.results70, go_sem, k0, k1]) rfl ?_
  refine ⟨?_, 0, 0, none, none, 0, 0, 0, 0, [], [], by rw [HE.out], OwnB.nil _ _ _, OwnB.nil _ _ _, fun _ => ⟨rfl, rfl, rfl, rfl⟩, fun h => by rw [HE.out] at h; omega⟩
  repeat refine Below.setCell ?_ (by simp) _
  exact HB.out

set_option maxRecDepth 100000 in
set_option maxHeartbeats 2000000 in
theorem read_cut (a : Option Addr) (n c : Nat) (l : List Int) (i : Nat) (w : World) (h : Bytes w a n c l) (hn : n ≤ 4611686018427387904) (hi : i + 4 ≤ n) (h0 : 1 ≤ sz (l.drop i)) (h1 : sz (l.drop i) ≤ 1025) (h2 : (n : Int) - i < 4 + sz (l.drop i) + 32) :
    Calls Try.prog 70 #[.slice a n c, .int .i64 i] w (RPost l i w) := by
  have hlen := h.len
  subst hlen
  have hcap := h.cap; have hmost := h.most
  have hbs := (tail_bytes h i (by omega)).all
  have hb0 := hbs.getD 0; have hb1 := hbs.getD 1; have hb2 := hbs.getD 2; have hb3 := hbs.getD 3; have hb4 := hbs.getD 4
  have hE : rdE l i = 1 := by
    unfold rdE
    rw [if_neg (by omega), if_neg (by omega), Int.toNat_natCast]
    rw [if_neg (by omega), if_neg (by omega), if_pos h2]
  obtain ⟨b, off, rfl, hcell⟩ := h.at'.resolve_left (by omega)
  have hd : ∀ j, (l.drop i).getD j 0 = l.getD (i + j) 0 := fun j => by rw [List.getD_eq_getElem?_getD, List.getD_eq_getElem?_getD, List.getElem?_drop]
  have hc' : ∀ j, i + j < l.length → w.cell? ⟨b, off + i + j, none⟩ = some (.int .u8 ((l.drop i).getD j 0)) := fun j hj => by rw [Nat.add_assoc, hcell (i + j) hj, hd]
  have e0 := hc' 0 (by omega)
  have e1 := hc' 1 (by omega)
  have e2 := hc' 2 (by omega)
  have e3 := hc' 3 (by omega)

  rw [Nat.add_zero] at e0
  have HE := Lib.hid hE
  have hS : sz (l.drop i) = four ((l.drop i).getD 0 0) ((l.drop i).getD 1 0) ((l.drop i).getD 2 0) ((l.drop i).getD 3 0) := rfl
  have HC := Lib.hid hc'
  have HH := Lib.hid h
  generalize (l.drop i).getD 0 0 = q0 at e0 hb0 hS
  generalize (l.drop i).getD 1 0 = q1 at e1 hb1 hS
  generalize (l.drop i).getD 2 0 = q2 at e2 hb2 hS
  generalize (l.drop i).getD 3 0 = q3 at e3 hb3 hS
  have HS := Lib.hid hS
  have d0 : decide ((i : Int) < 0) = false := decide_eq_false (by omega)
  have d1 : decide ((l.length : Int) < (i : Int)) = false := decide_eq_false (by omega)
  have x1 : ¬ c = i := by omega
  have d2 : ¬ ((l.length - i : Nat) : Int) < 4 := by omega
  have harr : ∀ W : World, (Instr.arrayAt 116 (.slice (some ⟨b, off + i, none⟩) (l.length - i) (c - i))).run Try.prog W = .ok (.pointer (some ⟨b, off + i, none⟩)) W := fun W => by
    have : ¬ l.length - i < 4 := by omega
    simp [Instr.arrayAt, go_sem, this]
  have hcw : ∀ (o : Obj) (p : Addr) (v : Value), w.cell? p = some v → (w.alloc o).cell? p = some v := fun o p v h => by rw [((Below.refl w.heap.size w).alloc (Nat.le_refl _) o).cell (World.block_lt_of_cell? w _ h)]; exact h
  have a0 := hcw (.cells #[.int .i64 0, .slice none 0 0] 35) _ _ e0
  have a1 := hcw (.cells #[.int .i64 0, .slice none 0 0] 35) _ _ e1
  have a2 := hcw (.cells #[.int .i64 0, .slice none 0 0] 35) _ _ e2
  have a3 := hcw (.cells #[.int .i64 0, .slice none 0 0] 35) _ _ e3
  have HCW := Lib.hid hcw
  clear h hbs hE hd hcell hc' hS hcw hb4
  go_enter Try.func70, Try.ntmps70
  go_wp2_with fail
  refine (joined_any q0 q1 q2 q3 _ hb0 hb1 hb2 hb3).mono ?_
  rintro e w1 ⟨rfl, hb⟩
  have HB := Lib.hid ((((Below.refl w.heap.size w).alloc (Nat.le_refl _) _)).trans (hb.mono (by simp)))
  have f0 : w1.frozen? ⟨w.heap.size, 0, none⟩ = false := by rw [hb.frozen (p := ⟨w.heap.size, 0, none⟩) (by simp)]; simp
  have k0 : w1.cell? ⟨w.heap.size, 0, none⟩ = some (.int .i64 0) := by rw [hb.cell (p := ⟨w.heap.size, 0, none⟩) (by simp)]; simp
  have f1 : w1.frozen? ⟨w.heap.size, 1, none⟩ = false := by rw [hb.frozen (p := ⟨w.heap.size, 1, none⟩) (by simp)]; simp
  have k1 : w1.cell? ⟨w.heap.size, 1, none⟩ = some (.slice none 0 0) := by rw [hb.cell (p := ⟨w.heap.size, 1, none⟩) (by simp)]; simp
  have hS0 : 0 ≤ sz (l.drop i) := by rw [HS.out]; unfold four; omega
  have hS1 : sz (l.drop i) ≤ 4294967295 := by rw [HS.out]; unfold four; omega
  rw [← HS.out]
  clear hb e0 e1 e2 e3 a0 a1 a2 a3 harr HS hb0 hb1 hb2 hb3
  generalize sz (l.drop i) = S at *
  have z0 : (S == 0) = false := by rw [beq_eq_false_iff_ne]; omega
  have z1 : ¬ 1025 < S := by omega
  have z2 : ((l.length - i : Nat) : Int) < 4 + S + 32 := by omega
  go_wp2
  refine bodyPost_ret (v := .tuple #[.agg #[.int .i64 0, .slice none 0 0], .slice none 0 0, .int .i64 0, .int .i64 1]) (by simp [results, Try.results70, go_sem, k0, k1]) rfl ?_
  refine ⟨?_, 0, 0, none, none, 0, 0, 0, 0, [], [], by rw [HE.out], OwnB.nil _ _ _, OwnB.nil _ _ _, fun _ => ⟨rfl, rfl, rfl, rfl⟩, fun h => by rw [HE.out] at h; omega⟩
  repeat refine Below.setCell ?_ (by simp) _
  exact HB.out

set_option maxRecDepth 100000 in
set_option maxHeartbeats 2000000 in
theorem read_kind (a : Option Addr) (n c : Nat) (l : List Int) (i : Nat) (w : World) (h : Bytes w a n c l) (hn : n ≤ 4611686018427387904) (hi : i + 4 ≤ n) (h0 : 1 ≤ sz (l.drop i)) (h1 : sz (l.drop i) ≤ 1025) (h2 : 4 + sz (l.drop i) + 32 ≤ (n : Int) - i) (h3 : isK ((l.drop i).getD 4 0) = false) :
    Calls Try.prog 70 #[.slice a n c, .int .i64 i] w (RPost l i w) := by
  have hlen := h.len
  subst hlen
  have hcap := h.cap; have hmost := h.most
  have hbs := (tail_bytes h i (by omega)).all
  have hb0 := hbs.getD 0; have hb1 := hbs.getD 1; have hb2 := hbs.getD 2; have hb3 := hbs.getD 3; have hb4 := hbs.getD 4
  have hE : rdE l i = 23 := by
    unfold rdE
    rw [if_neg (by omega), if_neg (by omega), Int.toNat_natCast]
    rw [if_neg (by omega), if_neg (by omega), if_neg (by omega), if_neg (by rw [h3]; simp)]
  obtain ⟨b, off, rfl, hcell⟩ := h.at'.resolve_left (by omega)
  have hd : ∀ j, (l.drop i).getD j 0 = l.getD (i + j) 0 := fun j => by rw [List.getD_eq_getElem?_getD, List.getD_eq_getElem?_getD, List.getElem?_drop]
  have hc' : ∀ j, i + j < l.length → w.cell? ⟨b, off + i + j, none⟩ = some (.int .u8 ((l.drop i).getD j 0)) := fun j hj => by rw [Nat.add_assoc, hcell (i + j) hj, hd]
  have e0 := hc' 0 (by omega)
  have e1 := hc' 1 (by omega)
  have e2 := hc' 2 (by omega)
  have e3 := hc' 3 (by omega)
  have e4 := hc' 4 (by omega)

  rw [Nat.add_zero] at e0
  have HE := Lib.hid hE
  have hS : sz (l.drop i) = four ((l.drop i).getD 0 0) ((l.drop i).getD 1 0) ((l.drop i).getD 2 0) ((l.drop i).getD 3 0) := rfl
  have HC := Lib.hid hc'
  have HH := Lib.hid h
  generalize (l.drop i).getD 0 0 = q0 at e0 hb0 hS
  generalize (l.drop i).getD 1 0 = q1 at e1 hb1 hS
  generalize (l.drop i).getD 2 0 = q2 at e2 hb2 hS
  generalize (l.drop i).getD 3 0 = q3 at e3 hb3 hS
  generalize (l.drop i).getD 4 0 = q4 at e4 hb4 h3
  have HS := Lib.hid hS
  have H3 := Lib.hid h3
  have d0 : decide ((i : Int) < 0) = false := decide_eq_false (by omega)
  have d1 : decide ((l.length : Int) < (i : Int)) = false := decide_eq_false (by omega)
  have x1 : ¬ c = i := by omega
  have d2 : ¬ ((l.length - i : Nat) : Int) < 4 := by omega
  have harr : ∀ W : World, (Instr.arrayAt 116 (.slice (some ⟨b, off + i, none⟩) (l.length - i) (c - i))).run Try.prog W = .ok (.pointer (some ⟨b, off + i, none⟩)) W := fun W => by
    have : ¬ l.length - i < 4 := by omega
    simp [Instr.arrayAt, go_sem, this]
  have hcw : ∀ (o : Obj) (p : Addr) (v : Value), w.cell? p = some v → (w.alloc o).cell? p = some v := fun o p v h => by rw [((Below.refl w.heap.size w).alloc (Nat.le_refl _) o).cell (World.block_lt_of_cell? w _ h)]; exact h
  have a0 := hcw (.cells #[.int .i64 0, .slice none 0 0] 35) _ _ e0
  have a1 := hcw (.cells #[.int .i64 0, .slice none 0 0] 35) _ _ e1
  have a2 := hcw (.cells #[.int .i64 0, .slice none 0 0] 35) _ _ e2
  have a3 := hcw (.cells #[.int .i64 0, .slice none 0 0] 35) _ _ e3
  have a4 := hcw (.cells #[.int .i64 0, .slice none 0 0] 35) _ _ e4
  have HCW := Lib.hid hcw
  clear h hbs hE hd hcell hc' hS hcw h3
  go_enter Try.func70, Try.ntmps70
  go_wp2_with fail
  refine (joined_any q0 q1 q2 q3 _ hb0 hb1 hb2 hb3).mono ?_
  rintro e w1 ⟨rfl, hb⟩
  have HB := Lib.hid ((((Below.refl w.heap.size w).alloc (Nat.le_refl _) _)).trans (hb.mono (by simp)))
  have f0 : w1.frozen? ⟨w.heap.size, 0, none⟩ = false := by rw [hb.frozen (p := ⟨w.heap.size, 0, none⟩) (by simp)]; simp
  have k0 : w1.cell? ⟨w.heap.size, 0, none⟩ = some (.int .i64 0) := by rw [hb.cell (p := ⟨w.heap.size, 0, none⟩) (by simp)]; simp
  have f1 : w1.frozen? ⟨w.heap.size, 1, none⟩ = false := by rw [hb.frozen (p := ⟨w.heap.size, 1, none⟩) (by simp)]; simp
  have k1 : w1.cell? ⟨w.heap.size, 1, none⟩ = some (.slice none 0 0) := by rw [hb.cell (p := ⟨w.heap.size, 1, none⟩) (by simp)]; simp
  have g4 : w1.cell? ⟨b, off + i + 4, none⟩ = some (.int .u8 q4) := by rw [hb.cell (World.block_lt_of_cell? _ _ a4)]; exact a4
  have hS0 : 0 ≤ sz (l.drop i) := by rw [HS.out]; unfold four; omega
  have hS1 : sz (l.drop i) ≤ 4294967295 := by rw [HS.out]; unfold four; omega
  rw [← HS.out]
  clear hb e0 e1 e2 e3 e4 a0 a1 a2 a3 a4 harr HS hb0 hb1 hb2 hb3
  generalize sz (l.drop i) = S at *
  have z0 : (S == 0) = false := by rw [beq_eq_false_iff_ne]; omega
  have z1 : ¬ 1025 < S := by omega
  have z2 : ¬ ((l.length - i : Nat) : Int) < 4 + S + 32 := by omega
  have z3 : (4 : Int) < ((l.length - i : Nat) : Int) := by omega
  obtain ⟨q40, q41⟩ := hb4
  go_wp2_with fail
  refine (kind_any q4 _).mono ?_
  rintro e w' ⟨rfl, rfl⟩
  rw [H3.out]
  go_wp2
  refine bodyPost_ret (v := .tuple #[.agg #[.int .i64 0, .slice none 0 0], .slice none 0 0, .int .i64 0, .int .i64 23]) (by simp [results, Try.results70, go_sem, k0, k1]) rfl ?_
  refine ⟨?_, 0, 0, none, none, 0, 0, 0, 0, [], [], by rw [HE.out], OwnB.nil _ _ _, OwnB.nil _ _ _, fun _ => ⟨rfl, rfl, rfl, rfl⟩, fun h => by rw [HE.out] at h; omega⟩
  repeat refine Below.setCell ?_ (by simp) _
  exact HB.out

set_option maxRecDepth 100000 in
set_option maxHeartbeats 2000000 in
theorem read_short (a : Option Addr) (n c : Nat) (l : List Int) (i : Nat) (w : World) (h : Bytes w a n c l) (hn : n ≤ 4611686018427387904) (hi : i ≤ n) (h4 : n < i + 4) :
    Calls Try.prog 70 #[.slice a n c, .int .i64 i] w (RPost l i w) := by
  have hlen := h.len
  subst hlen
  have hcap := h.cap; have hmost := h.most
  have hE : rdE l i = 1 := by
    unfold rdE
    rw [if_neg (by omega), if_pos (by omega)]
  have HE := Lib.hid hE
  have hsl := fun W => slice_tail a l.length c i (i : Int) rfl hi hcap hmost h.nil W
  have d0 : decide ((i : Int) < 0) = false := decide_eq_false (by omega)
  have d1 : decide ((l.length : Int) < (i : Int)) = false := decide_eq_false (by omega)
  have d2 : ((l.length - i : Nat) : Int) < 4 := by omega
  clear h hE
  go_enter Try.func70, Try.ntmps70
  go_wp2
  refine bodyPost_ret (v := .tuple #[.agg #[.int .i64 0, .slice none 0 0], .slice none 0 0, .int .i64 0, .int .i64 1]) (by simp [results, Try.results70, go_sem]) rfl ?_
  refine ⟨?_, 0, 0, none, none, 0, 0, 0, 0, [], [], by rw [HE.out], OwnB.nil _ _ _, OwnB.nil _ _ _, fun _ => ⟨rfl, rfl, rfl, rfl⟩, fun h => by rw [HE.out] at h; omega⟩
  repeat refine Below.setCell ?_ (by simp) _
  exact (Below.refl _ _).alloc (Nat.le_refl _) _

end Go.Proofs.Ytejhncdempfmjaa.en

/-
  Layer 46: the contract of the program's 'Read', of what can be read.
-/
namespace Go.Proofs.Ytejhncdempfmjaa.en
open Go.ChangeShapes Go.WideShapes Go.ChangeAt Go.RowKit
open bs
set_option linter.unusedVariables false

theorem _root_.Go.Proofs.Ytejhncdempfmjaa.bs.OwnB.far {w : World} {base e n c : Nat} {a : Option Addr} {l : List Int} (h : OwnB w base e a n c l) (p : Addr) (hp : p.block < base) (u : Value) : OwnB (w.setCell p u) base e a n c l := by
  refine ⟨ownsRow_setCell_other h.own ?_ u, h.all⟩
  rcases h.cases with ⟨rfl, rfl, rfl⟩ | ⟨g, rfl, hg, _⟩
  · simp [Value.ownBlock]
  · simp only [Value.ownBlock, ne_eq, Option.some.injEq]
    omega
theorem far2 {W : World} {g h : Nat} {v0 v1 u0 u1 : Value} (hg : g ≠ h) (h0 : W.cell? ⟨g, 0, none⟩ = some v0) (h1 : W.cell? ⟨g, 1, none⟩ = some v1) :
    ((W.setCell ⟨h, 0, none⟩ u0).setCell ⟨h, 1, none⟩ u1).cell? ⟨g, 0, none⟩ = some v0 ∧ ((W.setCell ⟨h, 0, none⟩ u0).setCell ⟨h, 1, none⟩ u1).cell? ⟨g, 1, none⟩ = some v1 := by
  constructor
  · rw [World.cell?_setCell_far _ _ _ _ (fun e => hg e.symm), World.cell?_setCell_far _ _ _ _ (fun e => hg e.symm)]; exact h0
  · rw [World.cell?_setCell_far _ _ _ _ (fun e => hg e.symm), World.cell?_setCell_far _ _ _ _ (fun e => hg e.symm)]; exact h1

set_option maxRecDepth 100000 in
set_option maxHeartbeats 2000000 in
theorem read_ok (a : Option Addr) (n c : Nat) (l : List Int) (i : Nat) (w : World) (h : Bytes w a n c l) (hn : n ≤ 4611686018427387904) (hi : i + 4 ≤ n) (h0 : 1 ≤ sz (l.drop i)) (h1 : sz (l.drop i) ≤ 1025) (h2 : 4 + sz (l.drop i) + 32 ≤ (n : Int) - i) (h3 : isK ((l.drop i).getD 4 0) = true) :
    Calls Try.prog 70 #[.slice a n c, .int .i64 i] w (RPost l i w) := by
  have hlen := h.len
  subst hlen
  have hcap := h.cap; have hmost := h.most
  have hbs := (tail_bytes h i (by omega)).all
  have hb0 := hbs.getD 0; have hb1 := hbs.getD 1; have hb2 := hbs.getD 2; have hb3 := hbs.getD 3; have hb4 := hbs.getD 4
  have hE : rdE l i = 0 := by
    unfold rdE
    rw [if_neg (by omega), if_neg (by omega), Int.toNat_natCast]
    rw [if_neg (by omega), if_neg (by omega), if_neg (by omega), if_pos h3]
  obtain ⟨b, off, rfl, hcell⟩ := h.at'.resolve_left (by omega)
  have hd : ∀ j, (l.drop i).getD j 0 = l.getD (i + j) 0 := fun j => by rw [List.getD_eq_getElem?_getD, List.getD_eq_getElem?_getD, List.getElem?_drop]
  have hc' : ∀ j, i + j < l.length → w.cell? ⟨b, off + i + j, none⟩ = some (.int .u8 ((l.drop i).getD j 0)) := fun j hj => by rw [Nat.add_assoc, hcell (i + j) hj, hd]
  have e0 := hc' 0 (by omega)
  have e1 := hc' 1 (by omega)
  have e2 := hc' 2 (by omega)
  have e3 := hc' 3 (by omega)
  have e4 := hc' 4 (by omega)

  rw [Nat.add_zero] at e0
  have HE := Lib.hid hE
  have hS : sz (l.drop i) = four ((l.drop i).getD 0 0) ((l.drop i).getD 1 0) ((l.drop i).getD 2 0) ((l.drop i).getD 3 0) := rfl
  have HC := Lib.hid hc'
  have HH := Lib.hid h
  generalize (l.drop i).getD 0 0 = q0 at e0 hb0 hS
  generalize (l.drop i).getD 1 0 = q1 at e1 hb1 hS
  generalize (l.drop i).getD 2 0 = q2 at e2 hb2 hS
  generalize (l.drop i).getD 3 0 = q3 at e3 hb3 hS
  generalize hq4 : (l.drop i).getD 4 0 = q4 at e4 hb4 h3
  have HQ4 := Lib.hid hq4; clear hq4
  have HS := Lib.hid hS
  have H3 := Lib.hid h3
  have d0 : decide ((i : Int) < 0) = false := decide_eq_false (by omega)
  have d1 : decide ((l.length : Int) < (i : Int)) = false := decide_eq_false (by omega)
  have x1 : ¬ c = i := by omega
  have d2 : ¬ ((l.length - i : Nat) : Int) < 4 := by omega
  have harr : ∀ W : World, (Instr.arrayAt 116 (.slice (some ⟨b, off + i, none⟩) (l.length - i) (c - i))).run Try.prog W = .ok (.pointer (some ⟨b, off + i, none⟩)) W := fun W => by
    have : ¬ l.length - i < 4 := by omega
    simp [Instr.arrayAt, go_sem, this]
  have hcw : ∀ (o : Obj) (p : Addr) (v : Value), w.cell? p = some v → (w.alloc o).cell? p = some v := fun o p v h => by rw [((Below.refl w.heap.size w).alloc (Nat.le_refl _) o).cell (World.block_lt_of_cell? w _ h)]; exact h
  have a0 := hcw (.cells #[.int .i64 0, .slice none 0 0] 35) _ _ e0
  have a1 := hcw (.cells #[.int .i64 0, .slice none 0 0] 35) _ _ e1
  have a2 := hcw (.cells #[.int .i64 0, .slice none 0 0] 35) _ _ e2
  have a3 := hcw (.cells #[.int .i64 0, .slice none 0 0] 35) _ _ e3
  have a4 := hcw (.cells #[.int .i64 0, .slice none 0 0] 35) _ _ e4
  have HCW := Lib.hid hcw
  clear h hbs hE hd hcell hc' hS hcw h3
  go_enter Try.func70, Try.ntmps70
  go_wp2_with fail
  refine (joined_any q0 q1 q2 q3 _ hb0 hb1 hb2 hb3).mono ?_
  rintro e w1 ⟨rfl, hb⟩
  have HB := Lib.hid ((((Below.refl w.heap.size w).alloc (Nat.le_refl _) _)).trans (hb.mono (by simp)))
  have f0 : w1.frozen? ⟨w.heap.size, 0, none⟩ = false := by rw [hb.frozen (p := ⟨w.heap.size, 0, none⟩) (by simp)]; simp
  have k0 : w1.cell? ⟨w.heap.size, 0, none⟩ = some (.int .i64 0) := by rw [hb.cell (p := ⟨w.heap.size, 0, none⟩) (by simp)]; simp
  have f1 : w1.frozen? ⟨w.heap.size, 1, none⟩ = false := by rw [hb.frozen (p := ⟨w.heap.size, 1, none⟩) (by simp)]; simp
  have k1 : w1.cell? ⟨w.heap.size, 1, none⟩ = some (.slice none 0 0) := by rw [hb.cell (p := ⟨w.heap.size, 1, none⟩) (by simp)]; simp
  have g4 : w1.cell? ⟨b, off + i + 4, none⟩ = some (.int .u8 q4) := by rw [hb.cell (World.block_lt_of_cell? _ _ a4)]; exact a4
  have hS0 : 0 ≤ sz (l.drop i) := by rw [HS.out]; unfold four; omega
  have hS1 : sz (l.drop i) ≤ 4294967295 := by rw [HS.out]; unfold four; omega
  rw [← HS.out]
  clear hb e0 e1 e2 e3 e4 a0 a1 a2 a3 a4 harr HS hb0 hb1 hb2 hb3
  obtain ⟨S, hSz⟩ : ∃ S, sz (l.drop i) = S := ⟨_, rfl⟩
  rw [hSz] at h0 h1 h2 hS0 hS1 ⊢
  have HSz := Lib.hid hSz; clear hSz
  have z0 : (S == 0) = false := by rw [beq_eq_false_iff_ne]; omega
  have z1 : ¬ 1025 < S := by omega
  have z2 : ¬ ((l.length - i : Nat) : Int) < 4 + S + 32 := by omega
  have z3 : (4 : Int) < ((l.length - i : Nat) : Int) := by omega
  obtain ⟨q40, q41⟩ := hb4
  go_wp2_with fail
  refine (kind_any q4 _).mono ?_
  rintro e w' ⟨rfl, rfl⟩
  rw [H3.out]
  obtain ⟨s, rfl⟩ : ∃ s : Nat, S = s := ⟨S.toNat, by omega⟩
  have HT := Lib.hid (show Bytes w (some ⟨b, off + i, none⟩) (l.length - i) (c - i) (l.drop i) by
    have := sub_bytes HH.out i (l.length - i) (by omega)
    rwa [List.take_of_length_le (by rw [List.length_drop]; omega)] at this)
  have HB1 := Lib.hid (sub_bytes HT.out 5 (s - 1) (by omega))
  have HB2 := Lib.hid (sub_bytes HT.out (4 + s) 32 (by omega))
  have y0 : (4 + (s : Int)).toNat = 4 + s := by omega
  have y1 : (5 : Int) ≤ 4 + (s : Int) := by omega
  have y2 : 4 + (s : Int) ≤ ((c - i : Nat) : Int) := by omega
  have y3 : ¬ c - i = 5 := by omega
  have y4 : 4 + s - 5 = s - 1 := by omega
  go_wp2_with fail
  refine (clone_any _ _ _ (((l.drop i).drop 5).take (s - 1)) _ (HB1.out.below HB.out) (by omega)).mono ?_
  rintro e w2 ⟨a2, c2, rfl, ho2, hb2⟩
  have HO2 := Lib.hid ho2
  have HBB := Lib.hid (HB.out.trans (hb2.mono HB.out.size))
  have lt1 : w.heap.size < w1.heap.size := World.block_lt_of_cell? w1 _ k0
  have k0' : w2.cell? ⟨w.heap.size, 0, none⟩ = some (.int .i64 0) := by rw [hb2.cell (p := ⟨w.heap.size, 0, none⟩) lt1]; exact k0
  have k1' : w2.cell? ⟨w.heap.size, 1, none⟩ = some (.slice none 0 0) := by rw [hb2.cell (p := ⟨w.heap.size, 1, none⟩) lt1]; exact k1
  have f0' : w2.frozen? ⟨w.heap.size, 0, none⟩ = false := by rw [hb2.frozen (p := ⟨w.heap.size, 0, none⟩) lt1]; exact f0
  have f1' : w2.frozen? ⟨w.heap.size, 1, none⟩ = false := by rw [hb2.frozen (p := ⟨w.heap.size, 1, none⟩) lt1]; exact f1
  have lt2 : w.heap.size < w2.heap.size := World.block_lt_of_cell? w2 _ k0'
  clear ho2 hb2 k0 k1 f0 f1 g4
  go_wp2_with fail
  have hW : Below w2.heap.size w2 (w2.alloc (.cells #[.int .i64 q4, .slice a2 (s - 1) c2] 35)) := (Below.refl _ _).alloc (Nat.le_refl _) _
  have m0 : (w2.alloc (.cells #[.int .i64 q4, .slice a2 (s - 1) c2] 35)).cell? ⟨w2.heap.size, 0, none⟩ = some (.int .i64 q4) := by simp
  have m1 : (w2.alloc (.cells #[.int .i64 q4, .slice a2 (s - 1) c2] 35)).cell? ⟨w2.heap.size, 1, none⟩ = some (.slice a2 (s - 1) c2) := by simp
  have hg : w2.heap.size < (w2.alloc (.cells #[.int .i64 q4, .slice a2 (s - 1) c2] 35)).heap.size := by simp
  generalize (w2.alloc (.cells #[.int .i64 q4, .slice a2 (s - 1) c2] 35)) = W0 at hW m0 m1 hg ⊢
  have HBody := Lib.hid (HO2.out.below hW)
  have HBW := Lib.hid (HBB.out.trans (hW.mono (Nat.le_of_lt lt2)))
  have r0 : W0.cell? ⟨w.heap.size, 0, none⟩ = some (.int .i64 0) := by rw [hW.cell (p := ⟨w.heap.size, 0, none⟩) lt2]; exact k0'
  have r1 : W0.cell? ⟨w.heap.size, 1, none⟩ = some (.slice none 0 0) := by rw [hW.cell (p := ⟨w.heap.size, 1, none⟩) lt2]; exact k1'
  have r2 : W0.frozen? ⟨w.heap.size, 0, none⟩ = false := by rw [hW.frozen (p := ⟨w.heap.size, 0, none⟩) lt2]; exact f0'
  have r3 : W0.frozen? ⟨w.heap.size, 1, none⟩ = false := by rw [hW.frozen (p := ⟨w.heap.size, 1, none⟩) lt2]; exact f1'
  have HTag : Hid (Bytes W0.drew (some ⟨b, off + i + (4 + s), none⟩) 32 (c - i - (4 + s)) (((l.drop i).drop (4 + s)).take 32)) := (HB2.out.below HBW.out).drewN 1
  have z0 : (4 + (s : Int) + 32).toNat = 4 + s + 32 := by omega
  have z1 : (0 : Int) ≤ 4 + (s : Int) := by omega
  have z2 : 4 + (s : Int) ≤ 4 + (s : Int) + 32 := by omega
  have z3 : 4 + (s : Int) + 32 ≤ ((c - i : Nat) : Int) := by omega
  have z4 : ¬ c - i = 4 + s := by omega
  have z5 : IntKind.i64.wrap (4 + (s : Int) + 32) = 4 + (s : Int) + 32 := IntWalk.i64_in _ (by omega)
  have z6 : IntKind.i64.wrap ((i : Int) + (4 + (s : Int))) = (i : Int) + (4 + (s : Int)) := IntWalk.i64_in _ (by omega)
  have z7 : IntKind.i64.wrap ((i : Int) + (4 + (s : Int)) + 32) = (i : Int) + (4 + (s : Int)) + 32 := IntWalk.i64_in _ (by omega)
  have z8 : 4 + s + 32 - (4 + s) = 32 := by omega
  have z9 : (0 : Int) ≤ 4 + (s : Int) + 32 := by omega
  have hlt0 : w.heap.size < W0.drew.heap.size := Nat.lt_trans lt2 hg
  have hgd : w2.heap.size < W0.drew.heap.size := hg
  have HM0 := Lib.hid m0; have HM1 := Lib.hid m1
  clear hW k0' k1' f0' f1' HO2 HBB
  go_region_held_law (fun W => W.cell? ⟨w2.heap.size, 0, none⟩ = some (.int .i64 q4) ∧ W.cell? ⟨w2.heap.size, 1, none⟩ = some (.slice a2 (s - 1) c2))
    (first | exact ⟨HM0.out, HM1.out⟩ | exact ⟨n0, n1⟩ | exact far2 (by omega) n0 n1)
    (first
      | (go_at_call 68; (with_reducible refine (clone_any _ _ _ _ _ HTag.out (by omega)).mono ?_); rintro e w3 ⟨a3, c3, rfl, ho3, hb3⟩; have n0 : w3.cell? ⟨w2.heap.size, 0, none⟩ = some (.int .i64 q4) := (by rw [hb3.cell (p := ⟨w2.heap.size, 0, none⟩) hgd]; exact HM0.out); have n1 : w3.cell? ⟨w2.heap.size, 1, none⟩ = some (.slice a2 (s - 1) c2) := (by rw [hb3.cell (p := ⟨w2.heap.size, 1, none⟩) hgd]; exact HM1.out); have u0 : w3.cell? ⟨w.heap.size, 0, none⟩ = some (.int .i64 0) := (by rw [hb3.cell (p := ⟨w.heap.size, 0, none⟩) hlt0]; exact r0); have u1 : w3.cell? ⟨w.heap.size, 1, none⟩ = some (.slice none 0 0) := (by rw [hb3.cell (p := ⟨w.heap.size, 1, none⟩) hlt0]; exact r1); have u2 : w3.frozen? ⟨w.heap.size, 0, none⟩ = false := (by rw [hb3.frozen (p := ⟨w.heap.size, 0, none⟩) hlt0]; exact r2); have u3 : w3.frozen? ⟨w.heap.size, 1, none⟩ = false := (by rw [hb3.frozen (p := ⟨w.heap.size, 1, none⟩) hlt0]; exact r3); have HO3 := Lib.hid ho3; have HB3 := Lib.hid hb3; clear ho3 hb3))
  have HBF := Lib.hid ((Below.drew HBW.out).trans (HB3.out.mono (Nat.le_of_lt hlt0)))
  have HBody3 := Lib.hid (OwnB.far (OwnB.far (HBody.out.drew.below HB3.out) ⟨w.heap.size, 0, none⟩ lt1 (.int .i64 q4)) ⟨w.heap.size, 1, none⟩ lt1 (.slice a2 (s - 1) c2))
  have HTag3 := Lib.hid (OwnB.far (OwnB.far HO3.out ⟨w.heap.size, 0, none⟩ hlt0 (.int .i64 q4)) ⟨w.heap.size, 1, none⟩ hlt0 (.slice a2 (s - 1) c2))
  go_wp2
  refine bodyPost_ret (v := .tuple #[.agg #[.int .i64 q4, .slice a2 (s - 1) c2], .slice a3 32 c3, .int .i64 ((i : Int) + (4 + (s : Int)) + 32), .int .i64 0]) (by simp [results, Try.results70, go_sem, u0, u1]) rfl ?_
  refine ⟨(HBF.out.setCell (Nat.le_refl _) _).setCell (Nat.le_refl _) _, q4, _, a2, a3, s - 1, c2, 32, c3, _, _, by rw [HE.out], HBody3.out.mono (Nat.le_of_lt lt1), HTag3.out.mono (Nat.le_of_lt hlt0), fun h => absurd HE.out h, fun _ => ?_⟩
  rw [Int.toNat_natCast, HSz.out, Int.toNat_natCast]
  exact ⟨HQ4.out.symm, rfl, rfl, by omega⟩

end Go.Proofs.Ytejhncdempfmjaa.en

/-
  Layer 46: the contract of the document's 'Read': what cannot be read.
-/
namespace Go.Proofs.Ytejhncdempfmjaa.en
open Go.ChangeShapes Go.WideShapes Go.ChangeAt Go.RowKit
open bs
set_option linter.unusedVariables false

theorem own2 (w : World) (o1 o2 : Obj) : OwnB (((w.alloc o1).alloc o2).alloc (.cells #[] 5)) w.heap.size 5 (some ⟨w.heap.size + 1 + 1, 0, none⟩) 0 0 [] := by
  simpa using OwnB.made ((w.alloc o1).alloc o2) w.heap.size 5 [] #[] rfl (by simp; omega) (by simp [maxLen]) (by simp [AllB])
theorem below3 (w : World) (o1 o2 o3 : Obj) : Below w.heap.size w (((w.alloc o1).alloc o2).alloc o3) := by
  refine Below.alloc (Below.alloc ((Below.refl _ _).alloc (Nat.le_refl _) _) ?_ _) ?_ _ <;> simp <;> omega

set_option maxRecDepth 100000 in
set_option maxHeartbeats 2000000 in
theorem ref_range (a : Option Addr) (n c : Nat) (l : List Int) (p : Int) (w : World) (h : Bytes w a n c l) (p0 : -9223372036854775808 ≤ p) (p1 : p ≤ 9223372036854775807) (hp : p < 0 ∨ (n : Int) < p) :
    Calls Try.prog 73 #[.slice a n c, .int .i64 p] w (RPost l p w) := by
  have hlen := h.len
  subst hlen
  have hcap := h.cap; have hmost := h.most
  have hE : rdE l p = 13 := by unfold rdE; rw [if_pos hp]
  have HE := Lib.hid hE
  clear h hE
  by_cases h0 : p < 0
  · clear hp
    go_enter Try.func73, Try.ntmps73
    go_wp2
    refine bodyPost_ret (v := .tuple #[.agg #[.int .i64 0, .slice none 0 0], .slice (some ⟨w.heap.size + 1 + 1, 0, none⟩) 0 0, .int .i64 0, .int .i64 13]) (by simp [results, Try.results73, go_sem]) rfl ?_
    refine ⟨?_, 0, 0, none, some ⟨w.heap.size + 1 + 1, 0, none⟩, 0, 0, 0, 0, [], [], by rw [HE.out], OwnB.nil _ _ _, ?_, fun _ => ⟨rfl, rfl, rfl, rfl⟩, fun h => by rw [HE.out] at h; omega⟩
    · repeat refine Below.setCell ?_ (by simp) _
      exact below3 _ _ _ _
    · exact own2 _ _ _
  · have h1 : (l.length : Int) < p := by omega
    have d0 : decide (p < 0) = false := decide_eq_false h0
    clear hp
    go_enter Try.func73, Try.ntmps73
    go_wp2
    refine bodyPost_ret (v := .tuple #[.agg #[.int .i64 0, .slice none 0 0], .slice (some ⟨w.heap.size + 1 + 1, 0, none⟩) 0 0, .int .i64 0, .int .i64 13]) (by simp [results, Try.results73, go_sem]) rfl ?_
    refine ⟨?_, 0, 0, none, some ⟨w.heap.size + 1 + 1, 0, none⟩, 0, 0, 0, 0, [], [], by rw [HE.out], OwnB.nil _ _ _, ?_, fun _ => ⟨rfl, rfl, rfl, rfl⟩, fun h => by rw [HE.out] at h; omega⟩
    · repeat refine Below.setCell ?_ (by simp) _
      exact below3 _ _ _ _
    · exact own2 _ _ _

set_option maxRecDepth 100000 in
set_option maxHeartbeats 2000000 in
theorem ref_short (a : Option Addr) (n c : Nat) (l : List Int) (i : Nat) (w : World) (h : Bytes w a n c l) (hn : n ≤ 4611686018427387904) (hi : i ≤ n) (h4 : n < i + 4) :
    Calls Try.prog 73 #[.slice a n c, .int .i64 i] w (RPost l i w) := by
  have hlen := h.len
  subst hlen
  have hcap := h.cap; have hmost := h.most
  have hE : rdE l i = 1 := by
    unfold rdE
    rw [if_neg (by omega), if_pos (by omega)]
  have HE := Lib.hid hE
  have d0 : decide ((i : Int) < 0) = false := decide_eq_false (by omega)
  have d1 : decide ((l.length : Int) < (i : Int)) = false := decide_eq_false (by omega)
  have d2 : (l.length : Int) - i < 4 := by omega
  clear h hE
  · go_enter Try.func73, Try.ntmps73
    go_wp2
    refine bodyPost_ret (v := .tuple #[.agg #[.int .i64 0, .slice none 0 0], .slice (some ⟨w.heap.size + 1 + 1, 0, none⟩) 0 0, .int .i64 0, .int .i64 1]) (by simp [results, Try.results73, go_sem]) rfl ?_
    refine ⟨?_, 0, 0, none, some ⟨w.heap.size + 1 + 1, 0, none⟩, 0, 0, 0, 0, [], [], by rw [HE.out], OwnB.nil _ _ _, ?_, fun _ => ⟨rfl, rfl, rfl, rfl⟩, fun h => by rw [HE.out] at h; omega⟩
    · repeat refine Below.setCell ?_ (by simp) _
      exact below3 _ _ _ _
    · exact own2 _ _ _

end Go.Proofs.Ytejhncdempfmjaa.en

/-
  Layer 46: the contract of the document's 'Read', behind its loop.
-/
namespace Go.Proofs.Ytejhncdempfmjaa.en
open Go.ChangeShapes Go.WideShapes Go.ChangeAt Go.RowKit
open bs
set_option linter.unusedVariables false

set_option maxRecDepth 100000 in
set_option maxHeartbeats 2000000 in
theorem ref_zero (a : Option Addr) (n c : Nat) (l : List Int) (i : Nat) (w : World) (h : Bytes w a n c l) (hn : n ≤ 4611686018427387904) (hi : i + 4 ≤ n) (h0 : sz (l.drop i) = 0) :
    Calls Try.prog 73 #[.slice a n c, .int .i64 i] w (RPost l i w) := by
  have hlen := h.len
  subst hlen
  have hcap := h.cap; have hmost := h.most
  have hbs := (tail_bytes h i (by omega)).all
  have hb0 := hbs.getD 0; have hb1 := hbs.getD 1; have hb2 := hbs.getD 2; have hb3 := hbs.getD 3
  have hE : rdE l i = 2 := by
    unfold rdE
    rw [if_neg (by omega), if_neg (by omega), Int.toNat_natCast]
    rw [if_pos h0]
  obtain ⟨b, off, rfl, hcell⟩ := h.at'.resolve_left (by omega)
  have hd : ∀ j, (l.drop i).getD j 0 = l.getD (i + j) 0 := fun j => by rw [List.getD_eq_getElem?_getD, List.getD_eq_getElem?_getD, List.getElem?_drop]
  have hc' : ∀ j, i + j < l.length → w.cell? ⟨b, off + (i + j), none⟩ = some (.int .u8 ((l.drop i).getD j 0)) := fun j hj => by rw [hcell (i + j) hj, hd]
  have e0 := hc' 0 (by omega)
  have e1 := hc' 1 (by omega)
  have e2 := hc' 2 (by omega)
  have e3 := hc' 3 (by omega)
  rw [Nat.add_zero] at e0
  have HE := Lib.hid hE
  have hS : sz (l.drop i) = four ((l.drop i).getD 0 0) ((l.drop i).getD 1 0) ((l.drop i).getD 2 0) ((l.drop i).getD 3 0) := rfl
  generalize (l.drop i).getD 0 0 = q0 at e0 hb0 hS
  generalize (l.drop i).getD 1 0 = q1 at e1 hb1 hS
  generalize (l.drop i).getD 2 0 = q2 at e2 hb2 hS
  generalize (l.drop i).getD 3 0 = q3 at e3 hb3 hS
  have HS := Lib.hid hS
  have d0 : decide ((i : Int) < 0) = false := decide_eq_false (by omega)
  have d1 : decide ((l.length : Int) < (i : Int)) = false := decide_eq_false (by omega)
  have d2 : ¬ (l.length : Int) - i < 4 := by omega
  have hcw : ∀ (o o2 : Obj) (p : Addr) (v : Value), w.cell? p = some v → ((w.alloc o).alloc o2).cell? p = some v := fun o o2 p v h => by rw [(((Below.refl w.heap.size w).alloc (Nat.le_refl _) o).alloc (by simp) o2).cell (World.block_lt_of_cell? w _ h)]; exact h
  have a0 := hcw (.cells #[.int .i64 0, .slice none 0 0] 35) (.cells #[.int .i64 0, .slice none 0 0] 35) _ _ e0
  have a1 := hcw (.cells #[.int .i64 0, .slice none 0 0] 35) (.cells #[.int .i64 0, .slice none 0 0] 35) _ _ e1
  have a2 := hcw (.cells #[.int .i64 0, .slice none 0 0] 35) (.cells #[.int .i64 0, .slice none 0 0] 35) _ _ e2
  have a3 := hcw (.cells #[.int .i64 0, .slice none 0 0] 35) (.cells #[.int .i64 0, .slice none 0 0] 35) _ _ e3
  obtain ⟨p0, p1⟩ := hb0
  obtain ⟨r0, r1⟩ := hb1
  obtain ⟨s0, s1⟩ := hb2
  obtain ⟨t0, t1⟩ := hb3
  have j0 : ((i : Int) + 0).toNat = i := by omega
  have j1 : ((i : Int) + 1).toNat = i + 1 := by omega
  have j2 : ((i : Int) + 2).toNat = i + 2 := by omega
  have j3 : ((i : Int) + 3).toNat = i + 3 := by omega
  clear h hbs hE hd hcell hc' hS hcw
  go_enter Try.func73, Try.ntmps73
  go_wp2_with fail
  go_loop [9, 10] (fun n i => JRel q0 q1 q2 q3 n i) (fun _ i => (4 - intOf i).toNat)
  case atStart => exact .inl ⟨rfl, rfl⟩
  case round =>
    have hr := hrel
    unfold JRel at hr
    clear hrel
    rcases hr with ⟨rfl, rfl⟩ | ⟨rfl, rfl⟩ | ⟨rfl, rfl⟩ | ⟨rfl, rfl⟩ | ⟨rfl, rfl⟩
    · go_wp2
      go_round
      case rel => exact .inr (.inl ⟨rfl, rfl⟩)
      case measure => simp [intOf]
    · go_wp2
      go_round
      case rel => exact .inr (.inr (.inl ⟨rfl, rfl⟩))
      case measure => simp [intOf]
    · go_wp2
      go_round
      case rel => exact .inr (.inr (.inr (.inl ⟨rfl, rfl⟩)))
      case measure => simp [intOf]
    · go_wp2
      go_round
      case rel => exact .inr (.inr (.inr (.inr ⟨rfl, rfl⟩)))
      case measure => simp [intOf]
    · rw [← HS.out, h0]
      go_wp2
      refine bodyPost_ret (v := .tuple #[.agg #[.int .i64 0, .slice none 0 0], .slice (some ⟨w.heap.size + 1 + 1, 0, none⟩) 0 0, .int .i64 0, .int .i64 2]) (by simp [results, Try.results73, go_sem]) rfl ?_
      refine ⟨?_, 0, 0, none, some ⟨w.heap.size + 1 + 1, 0, none⟩, 0, 0, 0, 0, [], [], by rw [HE.out], OwnB.nil _ _ _, ?_, fun _ => ⟨rfl, rfl, rfl, rfl⟩, fun h => by rw [HE.out] at h; omega⟩
      · repeat refine Below.setCell ?_ (by simp) _
        exact below3 _ _ _ _
      · exact own2 _ _ _
set_option maxRecDepth 100000 in
set_option maxHeartbeats 2000000 in
theorem ref_long (a : Option Addr) (n c : Nat) (l : List Int) (i : Nat) (w : World) (h : Bytes w a n c l) (hn : n ≤ 4611686018427387904) (hi : i + 4 ≤ n) (h0 : 1025 < sz (l.drop i)) :
    Calls Try.prog 73 #[.slice a n c, .int .i64 i] w (RPost l i w) := by
  have hlen := h.len
  subst hlen
  have hcap := h.cap; have hmost := h.most
  have hbs := (tail_bytes h i (by omega)).all
  have hb0 := hbs.getD 0; have hb1 := hbs.getD 1; have hb2 := hbs.getD 2; have hb3 := hbs.getD 3
  have hE : rdE l i = 3 := by
    unfold rdE
    rw [if_neg (by omega), if_neg (by omega), Int.toNat_natCast]
    rw [if_neg (by omega), if_pos h0]
  obtain ⟨b, off, rfl, hcell⟩ := h.at'.resolve_left (by omega)
  have hd : ∀ j, (l.drop i).getD j 0 = l.getD (i + j) 0 := fun j => by rw [List.getD_eq_getElem?_getD, List.getD_eq_getElem?_getD, List.getElem?_drop]
  have hc' : ∀ j, i + j < l.length → w.cell? ⟨b, off + (i + j), none⟩ = some (.int .u8 ((l.drop i).getD j 0)) := fun j hj => by rw [hcell (i + j) hj, hd]
  have e0 := hc' 0 (by omega)
  have e1 := hc' 1 (by omega)
  have e2 := hc' 2 (by omega)
  have e3 := hc' 3 (by omega)
  rw [Nat.add_zero] at e0
  have HE := Lib.hid hE
  have hS : sz (l.drop i) = four ((l.drop i).getD 0 0) ((l.drop i).getD 1 0) ((l.drop i).getD 2 0) ((l.drop i).getD 3 0) := rfl
  generalize (l.drop i).getD 0 0 = q0 at e0 hb0 hS
  generalize (l.drop i).getD 1 0 = q1 at e1 hb1 hS
  generalize (l.drop i).getD 2 0 = q2 at e2 hb2 hS
  generalize (l.drop i).getD 3 0 = q3 at e3 hb3 hS
  have HS := Lib.hid hS
  have d0 : decide ((i : Int) < 0) = false := decide_eq_false (by omega)
  have d1 : decide ((l.length : Int) < (i : Int)) = false := decide_eq_false (by omega)
  have d2 : ¬ (l.length : Int) - i < 4 := by omega
  have hcw : ∀ (o o2 : Obj) (p : Addr) (v : Value), w.cell? p = some v → ((w.alloc o).alloc o2).cell? p = some v := fun o o2 p v h => by rw [(((Below.refl w.heap.size w).alloc (Nat.le_refl _) o).alloc (by simp) o2).cell (World.block_lt_of_cell? w _ h)]; exact h
  have a0 := hcw (.cells #[.int .i64 0, .slice none 0 0] 35) (.cells #[.int .i64 0, .slice none 0 0] 35) _ _ e0
  have a1 := hcw (.cells #[.int .i64 0, .slice none 0 0] 35) (.cells #[.int .i64 0, .slice none 0 0] 35) _ _ e1
  have a2 := hcw (.cells #[.int .i64 0, .slice none 0 0] 35) (.cells #[.int .i64 0, .slice none 0 0] 35) _ _ e2
  have a3 := hcw (.cells #[.int .i64 0, .slice none 0 0] 35) (.cells #[.int .i64 0, .slice none 0 0] 35) _ _ e3
  obtain ⟨p0, p1⟩ := hb0
  obtain ⟨r0, r1⟩ := hb1
  obtain ⟨s0, s1⟩ := hb2
  obtain ⟨t0, t1⟩ := hb3
  have j0 : ((i : Int) + 0).toNat = i := by omega
  have j1 : ((i : Int) + 1).toNat = i + 1 := by omega
  have j2 : ((i : Int) + 2).toNat = i + 2 := by omega
  have j3 : ((i : Int) + 3).toNat = i + 3 := by omega
  clear h hbs hE hd hcell hc' hS hcw
  go_enter Try.func73, Try.ntmps73
  go_wp2_with fail
  go_loop [9, 10] (fun n i => JRel q0 q1 q2 q3 n i) (fun _ i => (4 - intOf i).toNat)
  case atStart => exact .inl ⟨rfl, rfl⟩
  case round =>
    have hr := hrel
    unfold JRel at hr
    clear hrel
    rcases hr with ⟨rfl, rfl⟩ | ⟨rfl, rfl⟩ | ⟨rfl, rfl⟩ | ⟨rfl, rfl⟩ | ⟨rfl, rfl⟩
    · go_wp2
      go_round
      case rel => exact .inr (.inl ⟨rfl, rfl⟩)
      case measure => simp [intOf]
    · go_wp2
      go_round
      case rel => exact .inr (.inr (.inl ⟨rfl, rfl⟩))
      case measure => simp [intOf]
    · go_wp2
      go_round
      case rel => exact .inr (.inr (.inr (.inl ⟨rfl, rfl⟩)))
      case measure => simp [intOf]
    · go_wp2
      go_round
      case rel => exact .inr (.inr (.inr (.inr ⟨rfl, rfl⟩)))
      case measure => simp [intOf]
    · have hS0 : 0 ≤ sz (l.drop i) := by rw [HS.out]; unfold four; omega
      have hS1 : sz (l.drop i) ≤ 4294967295 := by rw [HS.out]; unfold four; omega
      rw [← HS.out]
      clear e0 e1 e2 e3 a0 a1 a2 a3 HS p0 p1 r0 r1 s0 s1 t0 t1 j0 j1 j2 j3
      generalize sz (l.drop i) = S at *
      have z0 : (S == 0) = false := by rw [beq_eq_false_iff_ne]; omega
      go_wp2
      refine bodyPost_ret (v := .tuple #[.agg #[.int .i64 0, .slice none 0 0], .slice (some ⟨w.heap.size + 1 + 1, 0, none⟩) 0 0, .int .i64 0, .int .i64 3]) (by simp [results, Try.results73, go_sem]) rfl ?_
      refine ⟨?_, 0, 0, none, some ⟨w.heap.size + 1 + 1, 0, none⟩, 0, 0, 0, 0, [], [], by rw [HE.out], OwnB.nil _ _ _, ?_, fun _ => ⟨rfl, rfl, rfl, rfl⟩, fun h => by rw [HE.out] at h; omega⟩
      · repeat refine Below.setCell ?_ (by simp) _
        exact below3 _ _ _ _
      · exact own2 _ _ _
set_option maxRecDepth 100000 in
set_option maxHeartbeats 2000000 in
theorem ref_cut (a : Option Addr) (n c : Nat) (l : List Int) (i : Nat) (w : World) (h : Bytes w a n c l) (hn : n ≤ 4611686018427387904) (hi : i + 4 ≤ n) (h0 : 1 ≤ sz (l.drop i)) (h1 : sz (l.drop i) ≤ 1025) (h2 : (n : Int) - i < 4 + sz (l.drop i) + 32) :
    Calls Try.prog 73 #[.slice a n c, .int .i64 i] w (RPost l i w) := by
  have hlen := h.len
  subst hlen
  have hcap := h.cap; have hmost := h.most
  have hbs := (tail_bytes h i (by omega)).all
  have hb0 := hbs.getD 0; have hb1 := hbs.getD 1; have hb2 := hbs.getD 2; have hb3 := hbs.getD 3
  have hE : rdE l i = 1 := by
    unfold rdE
    rw [if_neg (by omega), if_neg (by omega), Int.toNat_natCast]
    rw [if_neg (by omega), if_neg (by omega), if_pos h2]
  obtain ⟨b, off, rfl, hcell⟩ := h.at'.resolve_left (by omega)
  have hd : ∀ j, (l.drop i).getD j 0 = l.getD (i + j) 0 := fun j => by rw [List.getD_eq_getElem?_getD, List.getD_eq_getElem?_getD, List.getElem?_drop]
  have hc' : ∀ j, i + j < l.length → w.cell? ⟨b, off + (i + j), none⟩ = some (.int .u8 ((l.drop i).getD j 0)) := fun j hj => by rw [hcell (i + j) hj, hd]
  have e0 := hc' 0 (by omega)
  have e1 := hc' 1 (by omega)
  have e2 := hc' 2 (by omega)
  have e3 := hc' 3 (by omega)
  rw [Nat.add_zero] at e0
  have HE := Lib.hid hE
  have hS : sz (l.drop i) = four ((l.drop i).getD 0 0) ((l.drop i).getD 1 0) ((l.drop i).getD 2 0) ((l.drop i).getD 3 0) := rfl
  generalize (l.drop i).getD 0 0 = q0 at e0 hb0 hS
  generalize (l.drop i).getD 1 0 = q1 at e1 hb1 hS
  generalize (l.drop i).getD 2 0 = q2 at e2 hb2 hS
  generalize (l.drop i).getD 3 0 = q3 at e3 hb3 hS
  have HS := Lib.hid hS
  have d0 : decide ((i : Int) < 0) = false := decide_eq_false (by omega)
  have d1 : decide ((l.length : Int) < (i : Int)) = false := decide_eq_false (by omega)
  have d2 : ¬ (l.length : Int) - i < 4 := by omega
  have hcw : ∀ (o o2 : Obj) (p : Addr) (v : Value), w.cell? p = some v → ((w.alloc o).alloc o2).cell? p = some v := fun o o2 p v h => by rw [(((Below.refl w.heap.size w).alloc (Nat.le_refl _) o).alloc (by simp) o2).cell (World.block_lt_of_cell? w _ h)]; exact h
  have a0 := hcw (.cells #[.int .i64 0, .slice none 0 0] 35) (.cells #[.int .i64 0, .slice none 0 0] 35) _ _ e0
  have a1 := hcw (.cells #[.int .i64 0, .slice none 0 0] 35) (.cells #[.int .i64 0, .slice none 0 0] 35) _ _ e1
  have a2 := hcw (.cells #[.int .i64 0, .slice none 0 0] 35) (.cells #[.int .i64 0, .slice none 0 0] 35) _ _ e2
  have a3 := hcw (.cells #[.int .i64 0, .slice none 0 0] 35) (.cells #[.int .i64 0, .slice none 0 0] 35) _ _ e3
  obtain ⟨p0, p1⟩ := hb0
  obtain ⟨r0, r1⟩ := hb1
  obtain ⟨s0, s1⟩ := hb2
  obtain ⟨t0, t1⟩ := hb3
  have j0 : ((i : Int) + 0).toNat = i := by omega
  have j1 : ((i : Int) + 1).toNat = i + 1 := by omega
  have j2 : ((i : Int) + 2).toNat = i + 2 := by omega
  have j3 : ((i : Int) + 3).toNat = i + 3 := by omega
  clear h hbs hE hd hcell hc' hS hcw
  go_enter Try.func73, Try.ntmps73
  go_wp2_with fail
  go_loop [9, 10] (fun n i => JRel q0 q1 q2 q3 n i) (fun _ i => (4 - intOf i).toNat)
  case atStart => exact .inl ⟨rfl, rfl⟩
  case round =>
    have hr := hrel
    unfold JRel at hr
    clear hrel
    rcases hr with ⟨rfl, rfl⟩ | ⟨rfl, rfl⟩ | ⟨rfl, rfl⟩ | ⟨rfl, rfl⟩ | ⟨rfl, rfl⟩
    · go_wp2
      go_round
      case rel => exact .inr (.inl ⟨rfl, rfl⟩)
      case measure => simp [intOf]
    · go_wp2
      go_round
      case rel => exact .inr (.inr (.inl ⟨rfl, rfl⟩))
      case measure => simp [intOf]
    · go_wp2
      go_round
      case rel => exact .inr (.inr (.inr (.inl ⟨rfl, rfl⟩)))
      case measure => simp [intOf]
    · go_wp2
      go_round
      case rel => exact .inr (.inr (.inr (.inr ⟨rfl, rfl⟩)))
      case measure => simp [intOf]
    · have hS0 : 0 ≤ sz (l.drop i) := by rw [HS.out]; unfold four; omega
      have hS1 : sz (l.drop i) ≤ 4294967295 := by rw [HS.out]; unfold four; omega
      rw [← HS.out]
      clear e0 e1 e2 e3 a0 a1 a2 a3 HS p0 p1 r0 r1 s0 s1 t0 t1 j0 j1 j2 j3
      generalize sz (l.drop i) = S at *
      have z0 : (S == 0) = false := by rw [beq_eq_false_iff_ne]; omega
      have z1 : ¬ 1025 < S := by omega
      go_wp2
      refine bodyPost_ret (v := .tuple #[.agg #[.int .i64 0, .slice none 0 0], .slice (some ⟨w.heap.size + 1 + 1, 0, none⟩) 0 0, .int .i64 0, .int .i64 1]) (by simp [results, Try.results73, go_sem]) rfl ?_
      refine ⟨?_, 0, 0, none, some ⟨w.heap.size + 1 + 1, 0, none⟩, 0, 0, 0, 0, [], [], by rw [HE.out], OwnB.nil _ _ _, ?_, fun _ => ⟨rfl, rfl, rfl, rfl⟩, fun h => by rw [HE.out] at h; omega⟩
      · repeat refine Below.setCell ?_ (by simp) _
        exact below3 _ _ _ _
      · exact own2 _ _ _
end Go.Proofs.Ytejhncdempfmjaa.en

/-
  Layer 46: the contract of the document's 'Read', of a kind that is none.
-/
namespace Go.Proofs.Ytejhncdempfmjaa.en
open Go.ChangeShapes Go.WideShapes Go.ChangeAt Go.RowKit
open bs
set_option linter.unusedVariables false

set_option maxRecDepth 100000 in
set_option maxHeartbeats 2000000 in
theorem ref_kind (a : Option Addr) (n c : Nat) (l : List Int) (i : Nat) (w : World) (h : Bytes w a n c l) (hn : n ≤ 4611686018427387904) (hi : i + 4 ≤ n) (h0 : 1 ≤ sz (l.drop i)) (h1 : sz (l.drop i) ≤ 1025) (h2 : 4 + sz (l.drop i) + 32 ≤ (n : Int) - i) (h3 : isK ((l.drop i).getD 4 0) = false) :
    Calls Try.prog 73 #[.slice a n c, .int .i64 i] w (RPost l i w) := by
  have hlen := h.len
  subst hlen
  have hcap := h.cap; have hmost := h.most
  have hbs := (tail_bytes h i (by omega)).all
  have hb0 := hbs.getD 0; have hb1 := hbs.getD 1; have hb2 := hbs.getD 2; have hb3 := hbs.getD 3; have hb4 := hbs.getD 4
  have hE : rdE l i = 23 := by
    unfold rdE
    rw [if_neg (by omega), if_neg (by omega), Int.toNat_natCast]
    rw [if_neg (by omega), if_neg (by omega), if_neg (by omega), if_neg (by rw [h3]; simp)]
  obtain ⟨b, off, rfl, hcell⟩ := h.at'.resolve_left (by omega)
  have hd : ∀ j, (l.drop i).getD j 0 = l.getD (i + j) 0 := fun j => by rw [List.getD_eq_getElem?_getD, List.getD_eq_getElem?_getD, List.getElem?_drop]
  have hc' : ∀ j, i + j < l.length → w.cell? ⟨b, off + (i + j), none⟩ = some (.int .u8 ((l.drop i).getD j 0)) := fun j hj => by rw [hcell (i + j) hj, hd]
  have e0 := hc' 0 (by omega)
  have e1 := hc' 1 (by omega)
  have e2 := hc' 2 (by omega)
  have e3 := hc' 3 (by omega)
  have e4 := hc' 4 (by omega)
  rw [Nat.add_zero] at e0
  have HE := Lib.hid hE
  have hS : sz (l.drop i) = four ((l.drop i).getD 0 0) ((l.drop i).getD 1 0) ((l.drop i).getD 2 0) ((l.drop i).getD 3 0) := rfl
  generalize (l.drop i).getD 0 0 = q0 at e0 hb0 hS
  generalize (l.drop i).getD 1 0 = q1 at e1 hb1 hS
  generalize (l.drop i).getD 2 0 = q2 at e2 hb2 hS
  generalize (l.drop i).getD 3 0 = q3 at e3 hb3 hS
  generalize (l.drop i).getD 4 0 = q4 at e4 hb4 h3
  have HS := Lib.hid hS
  have d0 : decide ((i : Int) < 0) = false := decide_eq_false (by omega)
  have d1 : decide ((l.length : Int) < (i : Int)) = false := decide_eq_false (by omega)
  have d2 : ¬ (l.length : Int) - i < 4 := by omega
  have hcw : ∀ (o o2 : Obj) (p : Addr) (v : Value), w.cell? p = some v → ((w.alloc o).alloc o2).cell? p = some v := fun o o2 p v h => by rw [(((Below.refl w.heap.size w).alloc (Nat.le_refl _) o).alloc (by simp) o2).cell (World.block_lt_of_cell? w _ h)]; exact h
  have a0 := hcw (.cells #[.int .i64 0, .slice none 0 0] 35) (.cells #[.int .i64 0, .slice none 0 0] 35) _ _ e0
  have a1 := hcw (.cells #[.int .i64 0, .slice none 0 0] 35) (.cells #[.int .i64 0, .slice none 0 0] 35) _ _ e1
  have a2 := hcw (.cells #[.int .i64 0, .slice none 0 0] 35) (.cells #[.int .i64 0, .slice none 0 0] 35) _ _ e2
  have a3 := hcw (.cells #[.int .i64 0, .slice none 0 0] 35) (.cells #[.int .i64 0, .slice none 0 0] 35) _ _ e3
  have a4 := hcw (.cells #[.int .i64 0, .slice none 0 0] 35) (.cells #[.int .i64 0, .slice none 0 0] 35) _ _ e4
  obtain ⟨p0, p1⟩ := hb0
  obtain ⟨r0, r1⟩ := hb1
  obtain ⟨s0, s1⟩ := hb2
  obtain ⟨t0, t1⟩ := hb3
  obtain ⟨u0, u1⟩ := hb4
  have j4 : ((i : Int) + 4).toNat = i + 4 := by omega
  have hq : q4 < 1 ∨ 3 < q4 := by unfold isK at h3; simp only [decide_eq_false_iff_not] at h3; omega
  have j0 : ((i : Int) + 0).toNat = i := by omega
  have j1 : ((i : Int) + 1).toNat = i + 1 := by omega
  have j2 : ((i : Int) + 2).toNat = i + 2 := by omega
  have j3 : ((i : Int) + 3).toNat = i + 3 := by omega
  clear h hbs hE hd hcell hc' hS hcw h3
  go_enter Try.func73, Try.ntmps73
  go_wp2_with fail
  go_loop [9, 10] (fun n i => JRel q0 q1 q2 q3 n i) (fun _ i => (4 - intOf i).toNat)
  case atStart => exact .inl ⟨rfl, rfl⟩
  case round =>
    have hr := hrel
    unfold JRel at hr
    clear hrel
    rcases hr with ⟨rfl, rfl⟩ | ⟨rfl, rfl⟩ | ⟨rfl, rfl⟩ | ⟨rfl, rfl⟩ | ⟨rfl, rfl⟩
    · go_wp2
      go_round
      case rel => exact .inr (.inl ⟨rfl, rfl⟩)
      case measure => simp [intOf]
    · go_wp2
      go_round
      case rel => exact .inr (.inr (.inl ⟨rfl, rfl⟩))
      case measure => simp [intOf]
    · go_wp2
      go_round
      case rel => exact .inr (.inr (.inr (.inl ⟨rfl, rfl⟩)))
      case measure => simp [intOf]
    · go_wp2
      go_round
      case rel => exact .inr (.inr (.inr (.inr ⟨rfl, rfl⟩)))
      case measure => simp [intOf]
    · have hS0 : 0 ≤ sz (l.drop i) := by rw [HS.out]; unfold four; omega
      have hS1 : sz (l.drop i) ≤ 4294967295 := by rw [HS.out]; unfold four; omega
      rw [← HS.out]
      clear e0 e1 e2 e3 a0 a1 a2 a3 HS p0 p1 r0 r1 s0 s1 t0 t1 j0 j1 j2 j3
      generalize sz (l.drop i) = S at *
      have z0 : (S == 0) = false := by rw [beq_eq_false_iff_ne]; omega
      have z1 : ¬ 1025 < S := by omega
      have z2 : ¬ (l.length : Int) - i < 4 + S + 32 := by omega
      by_cases hk : q4 < 1
      · go_wp2
        refine bodyPost_ret (v := .tuple #[.agg #[.int .i64 0, .slice none 0 0], .slice (some ⟨w.heap.size + 1 + 1, 0, none⟩) 0 0, .int .i64 0, .int .i64 23]) (by simp [results, Try.results73, go_sem]) rfl ?_
        refine ⟨?_, 0, 0, none, some ⟨w.heap.size + 1 + 1, 0, none⟩, 0, 0, 0, 0, [], [], by rw [HE.out], OwnB.nil _ _ _, ?_, fun _ => ⟨rfl, rfl, rfl, rfl⟩, fun h => by rw [HE.out] at h; omega⟩
        · repeat refine Below.setCell ?_ (by simp) _
          exact below3 _ _ _ _
        · exact own2 _ _ _
      · have hk3 : 3 < q4 := by omega
        go_wp2
        refine bodyPost_ret (v := .tuple #[.agg #[.int .i64 0, .slice none 0 0], .slice (some ⟨w.heap.size + 1 + 1, 0, none⟩) 0 0, .int .i64 0, .int .i64 23]) (by simp [results, Try.results73, go_sem]) rfl ?_
        refine ⟨?_, 0, 0, none, some ⟨w.heap.size + 1 + 1, 0, none⟩, 0, 0, 0, 0, [], [], by rw [HE.out], OwnB.nil _ _ _, ?_, fun _ => ⟨rfl, rfl, rfl, rfl⟩, fun h => by rw [HE.out] at h; omega⟩
        · repeat refine Below.setCell ?_ (by simp) _
          exact below3 _ _ _ _
        · exact own2 _ _ _

end Go.Proofs.Ytejhncdempfmjaa.en

/-
  Layer 46: the contract of the document's 'Read', of what can be read.
-/
namespace Go.Proofs.Ytejhncdempfmjaa.en
open Go.ChangeShapes Go.WideShapes Go.ChangeAt Go.RowKit
open bs
set_option linter.unusedVariables false

abbrev eobj : Obj := .cells #[.int .i64 0, .slice none 0 0] 35
abbrev nobj : Obj := .cells #[] 5
theorem own_nw (W : World) : OwnB (W.alloc nobj) W.heap.size 5 (some ⟨W.heap.size, 0, none⟩) 0 0 [] := by
  simpa using OwnB.made W W.heap.size 5 [] #[] rfl (Nat.le_refl _) (by simp [maxLen]) (by simp [AllB])
theorem own_da (W : World) : OwnB (W.drew.alloc nobj) W.heap.size 5 (some ⟨W.heap.size, 0, none⟩) 0 0 [] := own_nw W.drew
theorem own_ad (W : World) : OwnB (W.alloc nobj).drew W.heap.size 5 (some ⟨W.heap.size, 0, none⟩) 0 0 [] := (own_nw W).drew
theorem own_dao (W : World) (o : Obj) : OwnB ((W.drew.alloc nobj).alloc o) W.heap.size 5 (some ⟨W.heap.size, 0, none⟩) 0 0 [] := (own_da W).alloc o
theorem own_aod (W : World) (o : Obj) : OwnB ((W.alloc nobj).alloc o).drew W.heap.size 5 (some ⟨W.heap.size, 0, none⟩) 0 0 [] := ((own_nw W).alloc o).drew
theorem own_doa (W : World) (o : Obj) : OwnB ((W.drew.alloc o).alloc nobj) W.heap.size 5 (some ⟨W.heap.size + 1, 0, none⟩) 0 0 [] := by
  have h := (own_nw (W.drew.alloc o)).mono (base' := W.heap.size) (by simp)
  have e : (W.drew.alloc o).heap.size = W.heap.size + 1 := by simp
  rw [e] at h
  exact h
theorem own_oad (W : World) (o : Obj) : OwnB ((W.alloc o).alloc nobj).drew W.heap.size 5 (some ⟨W.heap.size + 1, 0, none⟩) 0 0 [] := by
  have h := (own_nw (W.alloc o)).mono (base' := W.heap.size) (by simp)
  have e : (W.alloc o).heap.size = W.heap.size + 1 := by simp
  rw [e] at h
  exact h.drew
theorem kb1 (W : World) (o : Obj) : Below W.heap.size W (W.alloc o).drew := Below.drew ((Below.refl _ _).alloc (Nat.le_refl _) o)
theorem kb2 (W : World) (o p : Obj) : Below W.heap.size W ((W.alloc o).alloc p).drew := Below.drew (((Below.refl _ _).alloc (Nat.le_refl _) o).alloc (by simp) p)
theorem farC (W V : World) (hg : ((W.alloc nobj).alloc eobj).drew.grownBy V (Value.ownBlock (.slice (some ⟨W.heap.size, 0, none⟩) 0 0))) :
    V.cell? ⟨W.heap.size + 1, 0, none⟩ = some (.int .i64 0) ∧ V.cell? ⟨W.heap.size + 1, 1, none⟩ = some (.slice none 0 0) ∧ V.frozen? ⟨W.heap.size + 1, 0, none⟩ = false ∧ V.frozen? ⟨W.heap.size + 1, 1, none⟩ = false ∧ V.heap[W.heap.size + 1]? = some eobj := by
  have hl : W.heap.size + 1 < ((W.alloc nobj).alloc eobj).drew.heap.size := by simp
  have hne : some (W.heap.size + 1) ≠ Value.ownBlock (.slice (some ⟨W.heap.size, 0, none⟩) 0 0) := by simp [Value.ownBlock]
  refine ⟨?_, ?_, ?_, ?_, ?_⟩
  · rw [hg.cell_far ⟨W.heap.size + 1, 0, none⟩ hl hne]; simp
  · rw [hg.cell_far ⟨W.heap.size + 1, 1, none⟩ hl hne]; simp
  · rw [hg.frozen_far ⟨W.heap.size + 1, 0, none⟩ hl hne]; simp
  · rw [hg.frozen_far ⟨W.heap.size + 1, 1, none⟩ hl hne]; simp
  · have e : (W.alloc nobj).heap.size = W.heap.size + 1 := by simp
    rw [hg.block _ hl hne, ← e]; exact heap_alloc_new (W.alloc nobj) eobj
theorem farB (W V : World) (hg : ((W.alloc eobj).alloc nobj).drew.grownBy V (Value.ownBlock (.slice (some ⟨W.heap.size + 1, 0, none⟩) 0 0))) :
    V.cell? ⟨W.heap.size, 0, none⟩ = some (.int .i64 0) ∧ V.cell? ⟨W.heap.size, 1, none⟩ = some (.slice none 0 0) ∧ V.frozen? ⟨W.heap.size, 0, none⟩ = false ∧ V.frozen? ⟨W.heap.size, 1, none⟩ = false ∧ V.heap[W.heap.size]? = some eobj := by
  have hl : W.heap.size < ((W.alloc eobj).alloc nobj).drew.heap.size := by simp; omega
  have hne : some W.heap.size ≠ Value.ownBlock (.slice (some ⟨W.heap.size + 1, 0, none⟩) 0 0) := by simp [Value.ownBlock]
  have hc : ∀ j, ((W.alloc eobj).alloc nobj).drew.cell? ⟨W.heap.size, j, none⟩ = (W.alloc eobj).cell? ⟨W.heap.size, j, none⟩ := fun j => (kb1 (W.alloc eobj) nobj).cell (p := ⟨W.heap.size, j, none⟩) (by simp)
  have hf : ∀ j, ((W.alloc eobj).alloc nobj).drew.frozen? ⟨W.heap.size, j, none⟩ = (W.alloc eobj).frozen? ⟨W.heap.size, j, none⟩ := fun j => (kb1 (W.alloc eobj) nobj).frozen (p := ⟨W.heap.size, j, none⟩) (by simp)
  refine ⟨?_, ?_, ?_, ?_, ?_⟩
  · rw [hg.cell_far ⟨W.heap.size, 0, none⟩ hl hne, hc]; simp
  · rw [hg.cell_far ⟨W.heap.size, 1, none⟩ hl hne, hc]; simp
  · rw [hg.frozen_far ⟨W.heap.size, 0, none⟩ hl hne, hf]; simp
  · rw [hg.frozen_far ⟨W.heap.size, 1, none⟩ hl hne, hf]; simp
  · rw [hg.block _ hl hne, (kb1 (W.alloc eobj) nobj).block _ (by simp)]; exact heap_alloc_new W eobj
theorem stay2 {W V : World} {b o g : Nat} {v u0 u1 : Value} (hb : b < W.heap.size) (hg : W.heap.size ≤ g) (h : V.cell? ⟨b, o, none⟩ = some v) (p0 p1 : Nat) :
    ((V.setCell ⟨g, p0, none⟩ u0).setCell ⟨g, p1, none⟩ u1).cell? ⟨b, o, none⟩ = some v := by
  rw [World.cell?_setCell_far _ _ _ _ (fun e => by simp at e; omega), World.cell?_setCell_far _ _ _ _ (fun e => by simp at e; omega)]; exact h
/-- Behind the entry's making: its block, its body, what is below. -/
structure MidW (W V : World) (g : Nat) (q : Int) (a : Option Addr) (n c : Nat) (body : List Int) : Prop where
  e0 : V.cell? ⟨g, 0, none⟩ = some (.int .i64 q)
  e1 : V.cell? ⟨g, 1, none⟩ = some (.slice a n c)
  below : Below W.heap.size W V
  own : OwnB V W.heap.size 5 a n c body
  ge : W.heap.size ≤ g
theorem midA {W V : World} {q : Int} {a : Option Addr} {n c : Nat} {body : List Int} (hB : Below W.heap.size W V) (ho : OwnB V W.heap.size 5 a n c body) :
    MidW W (V.alloc (.cells #[.int .i64 q, .slice a n c] 35)) V.heap.size q a n c body :=
  ⟨by simp, by simp, hB.alloc hB.size _, ho.alloc _, hB.size⟩
theorem midS {W V : World} {q : Int} {g : Nat} {a : Option Addr} {n c : Nat} {body : List Int} (hB : Below W.heap.size W V) (ho : OwnB V W.heap.size 5 a n c body) (hg : W.heap.size ≤ g)
    (x0 : V.cell? ⟨g, 0, none⟩ = some (.int .i64 0)) (x1 : V.cell? ⟨g, 1, none⟩ = some (.slice none 0 0)) (xb : V.heap[g]? = some eobj) :
    MidW W ((V.setCell ⟨g, 0, none⟩ (.int .i64 q)).setCell ⟨g, 1, none⟩ (.slice a n c)) g q a n c body := by
  have hne : Value.ownBlock (.slice a n c) ≠ some g := by
    rcases ho.own.2 with ⟨hv, _⟩ | ⟨g', cap, cur, hv, _, hh, _⟩
    · rw [hv]; simp [Value.ownBlock]
    · rw [hv]
      simp only [Value.ownBlock, ne_eq, Option.some.injEq]
      rintro rfl
      rw [xb] at hh
      simp [eobj] at hh
  have n01 : (⟨g, 1, none⟩ : Addr) ≠ ⟨g, 0, none⟩ := by simp
  have n10 : (⟨g, 0, none⟩ : Addr) ≠ ⟨g, 1, none⟩ := by simp
  refine ⟨?_, ?_, (hB.setCell hg _).setCell hg _, ⟨ownsRow_setCell_other (ownsRow_setCell_other ho.own hne _) hne _, ho.all⟩, hg⟩
  · exact (World.cell?_setCell_other _ _ _ _ n01).trans (World.cell?_setCell_same _ _ _ x0)
  · exact World.cell?_setCell_same _ _ _ ((World.cell?_setCell_other _ _ _ _ n10).trans x1)

set_option maxRecDepth 100000 in
set_option maxHeartbeats 2000000 in
theorem ref_ok (a : Option Addr) (n c : Nat) (l : List Int) (i : Nat) (w : World) (h : Bytes w a n c l) (hn : n ≤ 4611686018427387904) (hi : i + 4 ≤ n) (h0 : 1 ≤ sz (l.drop i)) (h1 : sz (l.drop i) ≤ 1025) (h2 : 4 + sz (l.drop i) + 32 ≤ (n : Int) - i) (h3 : isK ((l.drop i).getD 4 0) = true) :
    Calls Try.prog 73 #[.slice a n c, .int .i64 i] w (RPost l i w) := by
  have hlen := h.len
  subst hlen
  have hcap := h.cap; have hmost := h.most
  have hbs := (tail_bytes h i (by omega)).all
  have hb0 := hbs.getD 0; have hb1 := hbs.getD 1; have hb2 := hbs.getD 2; have hb3 := hbs.getD 3; have hb4 := hbs.getD 4
  have hE : rdE l i = 0 := by
    unfold rdE
    rw [if_neg (by omega), if_neg (by omega), Int.toNat_natCast]
    rw [if_neg (by omega), if_neg (by omega), if_neg (by omega), if_pos h3]
  obtain ⟨b, off, rfl, hcell⟩ := h.at'.resolve_left (by omega)
  have hd : ∀ j, (l.drop i).getD j 0 = l.getD (i + j) 0 := fun j => by rw [List.getD_eq_getElem?_getD, List.getD_eq_getElem?_getD, List.getElem?_drop]
  have hc' : ∀ j, i + j < l.length → w.cell? ⟨b, off + (i + j), none⟩ = some (.int .u8 ((l.drop i).getD j 0)) := fun j hj => by rw [hcell (i + j) hj, hd]
  have e0 := hc' 0 (by omega)
  have e1 := hc' 1 (by omega)
  have e2 := hc' 2 (by omega)
  have e3 := hc' 3 (by omega)
  have e4 := hc' 4 (by omega)
  rw [Nat.add_zero] at e0
  have HE := Lib.hid hE
  have hS : sz (l.drop i) = four ((l.drop i).getD 0 0) ((l.drop i).getD 1 0) ((l.drop i).getD 2 0) ((l.drop i).getD 3 0) := rfl
  generalize (l.drop i).getD 0 0 = q0 at e0 hb0 hS
  generalize (l.drop i).getD 1 0 = q1 at e1 hb1 hS
  generalize (l.drop i).getD 2 0 = q2 at e2 hb2 hS
  generalize (l.drop i).getD 3 0 = q3 at e3 hb3 hS
  generalize hq4 : (l.drop i).getD 4 0 = q4 at e4 hb4 h3
  have HQ4 := Lib.hid hq4; clear hq4
  have HS := Lib.hid hS
  have HH := Lib.hid h
  have d0 : decide ((i : Int) < 0) = false := decide_eq_false (by omega)
  have d1 : decide ((l.length : Int) < (i : Int)) = false := decide_eq_false (by omega)
  have d2 : ¬ (l.length : Int) - i < 4 := by omega
  have hcw : ∀ (o o2 : Obj) (p : Addr) (v : Value), w.cell? p = some v → ((w.alloc o).alloc o2).cell? p = some v := fun o o2 p v h => by rw [(((Below.refl w.heap.size w).alloc (Nat.le_refl _) o).alloc (by simp) o2).cell (World.block_lt_of_cell? w _ h)]; exact h
  have a0 := hcw (.cells #[.int .i64 0, .slice none 0 0] 35) (.cells #[.int .i64 0, .slice none 0 0] 35) _ _ e0
  have a1 := hcw (.cells #[.int .i64 0, .slice none 0 0] 35) (.cells #[.int .i64 0, .slice none 0 0] 35) _ _ e1
  have a2 := hcw (.cells #[.int .i64 0, .slice none 0 0] 35) (.cells #[.int .i64 0, .slice none 0 0] 35) _ _ e2
  have a3 := hcw (.cells #[.int .i64 0, .slice none 0 0] 35) (.cells #[.int .i64 0, .slice none 0 0] 35) _ _ e3
  have a4 := hcw (.cells #[.int .i64 0, .slice none 0 0] 35) (.cells #[.int .i64 0, .slice none 0 0] 35) _ _ e4
  obtain ⟨p0, p1⟩ := hb0
  obtain ⟨r0, r1⟩ := hb1
  obtain ⟨s0, s1⟩ := hb2
  obtain ⟨t0, t1⟩ := hb3
  obtain ⟨u0, u1⟩ := hb4
  have j4 : ((i : Int) + 4).toNat = i + 4 := by omega
  have hq : 1 ≤ q4 ∧ q4 ≤ 3 := by unfold isK at h3; simpa using h3
  have j0 : ((i : Int) + 0).toNat = i := by omega
  have j1 : ((i : Int) + 1).toNat = i + 1 := by omega
  have j2 : ((i : Int) + 2).toNat = i + 2 := by omega
  have j3 : ((i : Int) + 3).toNat = i + 3 := by omega
  clear h hbs hE hd hcell hc' hS hcw h3
  go_enter Try.func73, Try.ntmps73
  go_wp2_with fail
  go_loop [9, 10] (fun n i => JRel q0 q1 q2 q3 n i) (fun _ i => (4 - intOf i).toNat)
  case atStart => exact .inl ⟨rfl, rfl⟩
  case round =>
    have hr := hrel
    unfold JRel at hr
    clear hrel
    rcases hr with ⟨rfl, rfl⟩ | ⟨rfl, rfl⟩ | ⟨rfl, rfl⟩ | ⟨rfl, rfl⟩ | ⟨rfl, rfl⟩
    · go_wp2
      go_round
      case rel => exact .inr (.inl ⟨rfl, rfl⟩)
      case measure => simp [intOf]
    · go_wp2
      go_round
      case rel => exact .inr (.inr (.inl ⟨rfl, rfl⟩))
      case measure => simp [intOf]
    · go_wp2
      go_round
      case rel => exact .inr (.inr (.inr (.inl ⟨rfl, rfl⟩)))
      case measure => simp [intOf]
    · go_wp2
      go_round
      case rel => exact .inr (.inr (.inr (.inr ⟨rfl, rfl⟩)))
      case measure => simp [intOf]
    · have hS0 : 0 ≤ sz (l.drop i) := by rw [HS.out]; unfold four; omega
      have hS1 : sz (l.drop i) ≤ 4294967295 := by rw [HS.out]; unfold four; omega
      rw [← HS.out]
      clear e0 e1 e2 e3 e4 a0 a1 a2 a3 HS p0 p1 r0 r1 s0 s1 t0 t1 j0 j1 j2 j3
      obtain ⟨S, hSz⟩ : ∃ S, sz (l.drop i) = S := ⟨_, rfl⟩
      rw [hSz] at h0 h1 h2 hS0 hS1 ⊢
      have HSz := Lib.hid hSz; clear hSz
      have z0 : (S == 0) = false := by rw [beq_eq_false_iff_ne]; omega
      have z1 : ¬ 1025 < S := by omega
      have z2 : ¬ (l.length : Int) - i < 4 + S + 32 := by omega
      obtain ⟨q41, q42⟩ := hq
      obtain ⟨s, rfl⟩ : ∃ s : Nat, S = s := ⟨S.toNat, by omega⟩
      go_wp2_with fail
      have hW : Below w.heap.size w ((w.alloc eobj).alloc eobj) := ((Below.refl _ _).alloc (Nat.le_refl _) _).alloc (by simp) _
      have r0 : ((w.alloc eobj).alloc eobj).cell? ⟨w.heap.size, 0, none⟩ = some (.int .i64 0) := by simp
      have r1 : ((w.alloc eobj).alloc eobj).cell? ⟨w.heap.size, 1, none⟩ = some (.slice none 0 0) := by simp
      have f0 : ((w.alloc eobj).alloc eobj).frozen? ⟨w.heap.size, 0, none⟩ = false := by simp
      have f1 : ((w.alloc eobj).alloc eobj).frozen? ⟨w.heap.size, 1, none⟩ = false := by simp
      have hlt : w.heap.size < ((w.alloc eobj).alloc eobj).heap.size := by simp; omega
      dsimp only [eobj] at a4 hW r0 r1 f0 f1 hlt
      generalize (w.alloc (.cells #[.int .i64 0, .slice none 0 0] 35)).alloc (.cells #[.int .i64 0, .slice none 0 0] 35) = W at a4 hW r0 r1 f0 f1 hlt ⊢
      have HBW := Lib.hid hW
      have HB1 := Lib.hid ((sub_bytes HH.out (i + 5) (s - 1) (by omega)).below HBW.out)
      have HB2 := Lib.hid ((sub_bytes HH.out (i + 4 + s) 32 (by omega)).below HBW.out)
      have HR0 := Lib.hid r0; have HR1 := Lib.hid r1; have HF0 := Lib.hid f0; have HF1 := Lib.hid f1
      have hkeep : ∀ V : World, Below W.heap.size W V → V.cell? ⟨b, off + (i + 4), none⟩ = some (.int .u8 q4) := fun V h => by rw [h.cell (World.block_lt_of_cell? W _ a4)]; exact a4
      have Keep := Lib.hid hkeep
      have HA4 := Lib.hid a4
      clear hW r0 r1 f0 f1 hkeep
      have z5 : IntKind.i64.wrap ((i : Int) + 4) = (i : Int) + 4 := IntWalk.i64_in _ (by omega)
      have z6 : IntKind.i64.wrap ((i : Int) + 5) = (i : Int) + 5 := IntWalk.i64_in _ (by omega)
      have z7 : IntKind.i64.wrap ((i : Int) + 4 + s) = (i : Int) + 4 + s := IntWalk.i64_in _ (by omega)
      have y0 : ((i : Int) + 5).toNat = i + 5 := by omega
      have y1 : ((i : Int) + 4 + s).toNat = i + 4 + s := by omega
      have y2 : (0 : Int) ≤ (i : Int) + 4 := by omega
      have y3 : (i : Int) + 4 < (l.length : Int) := by omega
      have y5 : (0 : Int) ≤ (i : Int) + 5 := by omega
      have y6 : (i : Int) + 5 ≤ (i : Int) + 4 + s := by omega
      have y7 : (i : Int) + 4 + s ≤ (c : Int) := by omega
      have y8 : ¬ c = i + 5 := by omega
      have y9 : i + 4 + s - (i + 5) = s - 1 := by omega
      have hn1 : 0 + (s - 1) ≤ 140737488355328 := by omega
      have z8 : IntKind.i64.wrap q4 = q4 := IntWalk.i64_in _ (by omega)
      have hbW := World.block_lt_of_cell? W _ a4
      go_region_held_law (fun V => V.cell? ⟨b, off + (i + 4), none⟩ = some (.int .u8 q4))
        (first | exact HA4.out | exact Keep.out _ (kb1 W _) | exact Keep.out _ (kb2 W _ _) | exact x9 | exact Keep.out _ (hB.out.alloc hB.out.size _) | exact stay2 hbW (Nat.le_refl _) x9 _ _ | exact stay2 hbW (Nat.le_succ _) x9 _ _)
        (((first
            | refine step_append_b byteT (by rfl) _ _ (by rfl) W.heap.size (by rfl) (own_ad W) (by rfl) (HB1.out.below (kb1 W _)) hn1 (kb1 W _).size ?_
            | refine step_append_b byteT (by rfl) _ _ (by rfl) W.heap.size (by rfl) (own_aod W _) (by rfl) (HB1.out.below (kb2 W _ _)) hn1 (kb2 W _ _).size ?_
            | refine step_append_b byteT (by rfl) _ _ (by rfl) W.heap.size (by rfl) (own_oad W _) (by rfl) (HB1.out.below (kb2 W _ _)) hn1 (kb2 W _ _).size ?_); intro a9 c9 w9 ho9 hb9 hg9; (first | (have hs9 := Nat.le_trans (kb1 W _).size hb9.size; have HQ := hg9; have hB : Hid (Below W.heap.size W w9) := (kb1 W _).trans hb9) | (have hF := farC W _ hg9; obtain ⟨x0, x1, x2, x3, xb⟩ := hF; have XB := Lib.hid xb; clear xb; have hB : Hid (Below W.heap.size W w9) := (kb2 W _ _).trans hb9) | (have hF := farB W _ hg9; obtain ⟨x0, x1, x2, x3, xb⟩ := hF; have XB := Lib.hid xb; clear xb; have hB : Hid (Below W.heap.size W w9) := (kb2 W _ _).trans hb9)); have x9 := Keep.out _ hB.out; have HO9 := Lib.hid ho9; clear ho9))
      all_goals
        rw [Nat.zero_add, List.nil_append] at HO9
        have HE9 := HO9.out.cases
        clear a4 hb9 hg9 x9 z5 z6 z7 y0 y1 y2 y3 y5 y6 y7 y8 y9 z8
      all_goals first
        | (have hM := midA (q := q4) hB.out HO9.out; have HM := Lib.hid hM; clear hM HO9 HQ hs9 HE9 hB; generalize w9.alloc (.cells #[.int .i64 q4, .slice a9 (s - 1) c9] 35) = V at HM ⊢; generalize w9.heap.size = g at HM ⊢)
        | (have hM := midS (q := q4) hB.out HO9.out (Nat.le_add_right _ 1) x0 x1 XB.out; have HM := Lib.hid hM; clear hM HO9 x0 x1 x2 x3 HE9 hB XB; generalize (w9.setCell ⟨W.heap.size + 1, 0, none⟩ (.int .i64 q4)).setCell ⟨W.heap.size + 1, 1, none⟩ (.slice a9 (s - 1) c9) = V at HM ⊢; generalize W.heap.size + 1 = g at HM ⊢)
        | (have hM := midS (q := q4) hB.out HO9.out (Nat.le_refl _) x0 x1 XB.out; have HM := Lib.hid hM; clear hM HO9 x0 x1 x2 x3 HE9 hB XB; generalize (w9.setCell ⟨W.heap.size, 0, none⟩ (.int .i64 q4)).setCell ⟨W.heap.size, 1, none⟩ (.slice a9 (s - 1) c9) = V at HM ⊢; obtain ⟨g, hgW⟩ : ∃ g, W.heap.size = g := ⟨_, rfl⟩; rw [hgW] at HM ⊢; have HGW := Lib.hid hgW; clear hgW)
      all_goals
        have HT := Lib.hid (HB2.out.below HM.out.below)
        have z5 : IntKind.i64.wrap ((i : Int) + 4) = (i : Int) + 4 := IntWalk.i64_in _ (by omega)
        have z6 : IntKind.i64.wrap ((i : Int) + 36) = (i : Int) + 36 := IntWalk.i64_in _ (by omega)
        have z7 : IntKind.i64.wrap ((i : Int) + 4 + s) = (i : Int) + 4 + s := IntWalk.i64_in _ (by omega)
        have z8 : IntKind.i64.wrap ((i : Int) + 36 + s) = (i : Int) + 36 + s := IntWalk.i64_in _ (by omega)
        have y0 : ((i : Int) + 4 + s).toNat = i + 4 + s := by omega
        have y1 : ((i : Int) + 36 + s).toNat = i + 36 + s := by omega
        have y2 : (0 : Int) ≤ (i : Int) + 4 + s := by omega
        have y3 : (0 : Int) ≤ (i : Int) + 36 + s := by omega
        have y5 : (i : Int) + 4 + s ≤ (i : Int) + 36 + s := by omega
        have y6 : (i : Int) + 36 + s ≤ (c : Int) := by omega
        have y8 : ¬ c = i + 4 + s := by omega
        have y9 : i + 36 + s - (i + 4 + s) = 32 := by omega
        have e0 := HM.out.e0
        have e1 := HM.out.e1
        have hgV := World.block_lt_of_cell? V _ e0
        have HE0 := Lib.hid e0; have HE1 := Lib.hid e1
        have hne : g ≠ w.heap.size := Nat.ne_of_gt (Nat.lt_of_lt_of_le hlt HM.out.ge)
        have hn2 : 0 + 32 ≤ 140737488355328 := by omega
        have hlV : w.heap.size < V.heap.size := Nat.lt_of_lt_of_le hlt HM.out.below.size
        have Rc : Hid (∀ X : World, Below V.heap.size V X → X.cell? ⟨w.heap.size, 0, none⟩ = some (.int .i64 0) ∧ X.cell? ⟨w.heap.size, 1, none⟩ = some (.slice none 0 0) ∧ X.frozen? ⟨w.heap.size, 0, none⟩ = false ∧ X.frozen? ⟨w.heap.size, 1, none⟩ = false) := fun X hX => by
          refine ⟨?_, ?_, ?_, ?_⟩
          · rw [hX.cell (p := ⟨w.heap.size, 0, none⟩) hlV, HM.out.below.cell (p := ⟨w.heap.size, 0, none⟩) hlt]; exact HR0.out
          · rw [hX.cell (p := ⟨w.heap.size, 1, none⟩) hlV, HM.out.below.cell (p := ⟨w.heap.size, 1, none⟩) hlt]; exact HR1.out
          · rw [hX.frozen (p := ⟨w.heap.size, 0, none⟩) hlV, HM.out.below.frozen (p := ⟨w.heap.size, 0, none⟩) hlt]; exact HF0.out
          · rw [hX.frozen (p := ⟨w.heap.size, 1, none⟩) hlV, HM.out.below.frozen (p := ⟨w.heap.size, 1, none⟩) hlt]; exact HF1.out
        have Ke : Hid (∀ X : World, Below V.heap.size V X → X.cell? ⟨g, 0, none⟩ = some (.int .i64 q4) ∧ X.cell? ⟨g, 1, none⟩ = some (.slice a9 (s - 1) c9)) := fun X hX => by
          refine ⟨?_, ?_⟩
          · rw [hX.cell (p := ⟨g, 0, none⟩) hgV]; exact HE0.out
          · rw [hX.cell (p := ⟨g, 1, none⟩) hgV]; exact HE1.out
        clear hgV e0 e1
        go_wp2_with fail
        go_region_held_law (fun X => X.cell? ⟨g, 0, none⟩ = some (.int .i64 q4) ∧ X.cell? ⟨g, 1, none⟩ = some (.slice a9 (s - 1) c9))
          (first | exact ⟨HE0.out, HE1.out⟩ | exact Ke.out _ (kb1 V _) | exact x9 | exact far2 hne x9.1 x9.2)
          ((refine step_append_b byteT (by rfl) _ _ (by rfl) V.heap.size (by rfl) (own_ad V) (by rfl) (HT.out.below (kb1 V _)) hn2 (kb1 V _).size ?_; intro a10 c10 w10 ho10 hb10 hg10; have hB : Hid (Below V.heap.size V w10) := (kb1 V _).trans hb10; have x9 := Ke.out _ hB.out; obtain ⟨x0, x1, x2, x3⟩ := Rc.out _ hB.out; have HO10 := Lib.hid ho10; clear ho10))
        rw [Nat.zero_add, List.nil_append] at HO10
        have HBF := Lib.hid (HBW.out.trans ((HM.out.below.mono HBW.out.size).trans (hB.out.mono (Nat.le_of_lt hlV))))
        have hlW : w.heap.size ≤ W.heap.size := HBW.out.size
        have HBody := Lib.hid (OwnB.far (OwnB.far (HM.out.own.below hB.out) ⟨w.heap.size, 0, none⟩ hlt (.int .i64 q4)) ⟨w.heap.size, 1, none⟩ hlt (.slice a9 (s - 1) c9))
        have HTag := Lib.hid (OwnB.far (OwnB.far HO10.out ⟨w.heap.size, 0, none⟩ hlV (.int .i64 q4)) ⟨w.heap.size, 1, none⟩ hlV (.slice a9 (s - 1) c9))
        clear hg10 hb10
        go_wp2
        refine bodyPost_ret (v := .tuple #[.agg #[.int .i64 q4, .slice a9 (s - 1) c9], .slice a10 32 c10, .int .i64 ((i : Int) + 36 + s), .int .i64 0]) (by simp [results, Try.results73, go_sem, x0, x1]) rfl ?_
        refine ⟨(HBF.out.setCell (Nat.le_refl _) _).setCell (Nat.le_refl _) _, q4, _, a9, a10, s - 1, c9, 32, c10, _, _, by rw [HE.out], HBody.out.mono hlW, HTag.out.mono (Nat.le_of_lt hlV), fun h => absurd HE.out h, fun _ => ?_⟩
        rw [Int.toNat_natCast, HSz.out, Int.toNat_natCast, List.drop_drop, List.drop_drop]
        exact ⟨HQ4.out.symm, rfl, by rw [Nat.add_assoc], by omega⟩
end Go.Proofs.Ytejhncdempfmjaa.en

/-
  Layer 46: growing, joining, splitting; frames.
-/
namespace Go.Proofs.Ytejhncdempfmjaa.en
open Go.ChangeShapes Go.WideShapes Go.ChangeAt Go.RowKit
open bs
set_option linter.unusedVariables false

set_option maxRecDepth 100000 in
set_option maxHeartbeats 400000 in
theorem grow_any (n : Nat) (h1 : 1 ≤ n) (hn : n ≤ 140737488355328) (w : World) : Calls Try.prog 83 #[.slice none 0 0, .int .i64 n] w (APost w w.heap.size 0 []) := by
  obtain ⟨i0, hi, hz0, hz1, hz2⟩ := info_parts (byteT).info
  have hck : 0 + (n - 0) = n := by omega
  have hrz : ∀ ty, (Builtin.append_ #[22, 3] ty #[.slice none 0 0, .int .i64 (n : Int)]).run Try.prog w =
      .ok (.slice (some ⟨w.heap.size, 0, none⟩) n (grownCap w n 0 5)) (w.drew.alloc (.cells (#[] ++ Builtin.zeroCells (Value.cells (.int .u8 0)) n ++ Builtin.zeroCells (Value.cells (.int .u8 0)) (grownCap w n 0 5 - n)) 5)) := fun ty => by
    have h := Lib.run_append_grow_zeros (P := Try.prog) w 22 3 ty 5 i0 (.int .u8 0) .i64 .i64 Try.underlying22 Try.underlying3 hi hz0 none 0 0 [] (run_firstCells_none w.drew i0.size 0 0 0) n (by omega) (by omega) (by omega) (by omega) (by rw [hz2]; omega)
      (by rw [Nat.zero_add]; exact growslice_fits (by omega) (by rw [hz2]; omega))
    rw [Nat.zero_add] at h
    exact h
  have hGn : n ≤ grownCap w n 0 5 := grownCap_ge w _ _ _
  have hGm : grownCap w n 0 5 ≤ maxLen := grownCap_le_maxLen w n 0 _ (by unfold maxLen; omega)
  generalize grownCap w n 0 5 = G at hrz hGn hGm
  have hG63 : G ≤ 9223372036854775807 := by unfold maxLen at hGm; omega
  have HG := Lib.hid hGm
  have HB : Hid (Below w.heap.size w (w.drew.alloc (.cells (#[] ++ Builtin.zeroCells (Value.cells (.int .u8 0)) n ++ Builtin.zeroCells (Value.cells (.int .u8 0)) (G - n)) 5))) := (Below.drew (Below.refl _ _)).alloc (Nat.le_refl _) _
  have HO : Hid (OwnB (w.drew.alloc (.cells (#[] ++ Builtin.zeroCells (Value.cells (.int .u8 0)) n ++ Builtin.zeroCells (Value.cells (.int .u8 0)) (G - n)) 5)) w.heap.size 5 (some ⟨w.heap.size, 0, none⟩) 0 G []) := by
    refine ⟨⟨by simp [cellsOf], .inr ⟨w.heap.size, G, _, rfl, Nat.le_refl _, heap_alloc_new w.drew _, Nat.zero_le _, hGm, ?_, ?_⟩⟩, by simp [AllB]⟩
    · simp only [Array.size_append, size_zeroCells, Array.size_empty]
      rw [show (Value.cells (.int .u8 0)).size = 1 from rfl]
      omega
    · simp [cellsOf]
  generalize w.drew.alloc (.cells (#[] ++ Builtin.zeroCells (Value.cells (.int .u8 0)) n ++ Builtin.zeroCells (Value.cells (.int .u8 0)) (G - n)) 5) = V at hrz HB HO
  have y0 : ¬ (n : Int) < 0 := by omega
  have y1 : 0 < (n : Int) := by omega
  clear hi hz0 hz1 hz2 hck hGm
  go_enter Try.func83, Try.ntmps83
  go_wp2_with (at_builtin; refine Lib.wpList_append_run _ rfl _ _ _ _ rfl _ _ rfl rfl _ _ (hrz _) ?_)
  go_ret
  exact ⟨_, _, rfl, HO.out, HB.out⟩

/-- The parts of a joining. -/
structure Part where
  a : Option Addr
  n : Nat
  c : Nat
  l : List Int
def tot (p : Nat → Part) : Nat → Nat
  | 0 => 0
  | k + 1 => tot p k + (p k).n
def cat (p : Nat → Part) : Nat → List Int
  | 0 => []
  | k + 1 => cat p k ++ (p k).l
theorem tot_le (p : Nat → Part) (k m : Nat) (h : k ≤ m) : tot p k ≤ tot p m := by
  induction m with
  | zero => rw [show k = 0 by omega]; exact Nat.le_refl _
  | succ m ih =>
    rcases Nat.lt_or_ge k (m + 1) with h1 | h1
    · exact Nat.le_trans (ih (by omega)) (Nat.le_add_right _ _)
    · rw [show k = m + 1 by omega]; exact Nat.le_refl _

set_option maxRecDepth 100000 in
set_option maxHeartbeats 1000000 in
theorem concat_any (p : Nat → Part) (b m c : Nat) (w : World) (hc : ∀ k, k < m → w.cell? ⟨b, k, none⟩ = some (.slice (p k).a (p k).n (p k).c)) (hp : ∀ k, k < m → Bytes w (p k).a (p k).n (p k).c (p k).l)
    (h1 : 1 ≤ tot p m) (hm : m ≤ 1000000) (hmc : m ≤ c) (hcc : c ≤ 9223372036854775807) (ht : tot p m ≤ 140737488355328) :
    Calls Try.prog 54 #[.slice (some ⟨b, 0, none⟩) m c] w (APost w w.heap.size (tot p m) (cat p m)) := by
  have HC := Lib.hid hc; have HP := Lib.hid hp
  have hle : ∀ k, k ≤ m → tot p k ≤ 140737488355328 := fun k hk => Nat.le_trans (tot_le p k m hk) ht
  have HL := Lib.hid hle
  clear hc hp hle
  go_enter Try.func54, Try.ntmps54
  go_wp2
  go_loop [3, 11] (fun t i => ∃ k : Nat, k ≤ m ∧ i = .int .i64 k ∧ t = .int .i64 (tot p k)) (fun _ i => m - (intOf i).toNat)
  case atStart => exact ⟨0, by omega, rfl, rfl⟩
  case round =>
    obtain ⟨k, hk, rfl, rfl⟩ := hrel
    by_cases hlt : k < m
    · have ck := HC.out k hlt
      have hs : tot p (k + 1) = tot p k + (p k).n := rfl
      have hL := HL.out (k + 1) hlt
      rw [hs] at hL
      have HS := Lib.hid hs
      clear hs
      have hcap := (HP.out k hlt).cap; have hmost := (HP.out k hlt).most
      obtain ⟨⟨ak, nk, ck', lk⟩, hpk⟩ : ∃ q, p k = q := ⟨_, rfl⟩
      rw [hpk] at ck hL hcap hmost
      have HPK := Lib.hid hpk
      clear hpk
      dsimp only at ck hL hcap hmost
      go_wp2
      go_round
      case rel => exact ⟨k + 1, by omega, by go_num, by rw [HS.out, HPK.out]; go_num⟩
      case measure => simp [intOf]; omega
    · obtain rfl : k = m := by omega
      have hL := HL.out k (Nat.le_refl _)
      go_wp2_with fail
      refine (grow_any (tot p k) h1 ht _).mono ?_
      rintro e w1 ⟨a1, c1, rfl, ho1, hb1⟩
      have HO1 := Lib.hid ho1; have HB1 := Lib.hid hb1
      clear ho1 hb1
      go_wp2
      go_loopw [6, 27] (fun v i wr => ∃ (j : Nat) (a2 : Option Addr) (c2 : Nat), j ≤ k ∧ i = .int .i64 j ∧ v = .slice a2 (tot p j) c2 ∧ Hid (OwnB wr w.heap.size 5 a2 (tot p j) c2 (cat p j)) ∧ Hid (Below w.heap.size w wr)) (fun _ i _ => k - (intOf i).toNat)
      case atStart => exact ⟨0, a1, c1, by omega, rfl, rfl, HO1.out, HB1.out⟩
      case round =>
        obtain ⟨j, a2, c2, hj, rfl, rfl, ho, hb⟩ := hrel
        by_cases hlt : j < k
        · have cj := HC.out j hlt
          rw [← hb.out.cell (World.block_lt_of_cell? w _ cj)] at cj
          have HPJ := Lib.hid ((HP.out j hlt).below hb.out)
          have hs : tot p (j + 1) = tot p j + (p j).n := rfl
          have hcs : cat p (j + 1) = cat p j ++ (p j).l := rfl
          have hL := HL.out (j + 1) hlt
          rw [hs] at hL
          have HS := Lib.hid hs; have HCS := Lib.hid hcs
          clear hs hcs
          obtain ⟨⟨ak, nk, ck', lk⟩, hpk⟩ : ∃ q, p j = q := ⟨_, rfl⟩
          rw [hpk] at cj hL HPJ HS HCS
          clear hpk
          dsimp only at cj hL HPJ HS HCS
          go_wp2_with (at_builtin; refine wpList_append_b byteT rfl _ _ rfl w.heap.size rfl ho.out rfl HPJ.out hL hb.out.size ?_)
          intro a3 c3 w3 ho3 hb3 _
          have HO3 := Lib.hid ho3; have HB3 := Lib.hid (hb.out.trans hb3)
          clear ho3 hb3
          go_wp2
          go_roundw
          case rel => exact ⟨j + 1, a3, c3, by omega, by go_num, by rw [HS.out], by rw [HS.out, HCS.out]; exact HO3, HB3⟩
          case measure => simp [intOf]; omega
        · obtain rfl : j = k := by omega
          go_wp2
          go_ret
          exact ⟨a2, c2, rfl, ho.out, hb.out⟩

def SRel (n : Nat) (w : World) (t i : Value) (wr : World) : Prop :=
  ∃ (k : Int) (m : Nat) (L : Array Value), i = .int .i64 k ∧ t = .int .i64 m ∧ wr = (w.alloc (.cells #[.int .u8 0, .int .u8 0, .int .u8 0, .int .u8 0] 116)).alloc (.cells L 116) ∧
    ((k = 3 ∧ m = n ∧ L = #[.int .u8 0, .int .u8 0, .int .u8 0, .int .u8 0]) ∨ (k = 2 ∧ m = n / 256 ∧ L = #[.int .u8 0, .int .u8 0, .int .u8 0, .int .u8 (n % 256 : Nat)]) ∨
     (k = 1 ∧ m = 0 ∧ L = #[.int .u8 0, .int .u8 0, .int .u8 (n / 256 : Nat), .int .u8 (n % 256 : Nat)]) ∨ (k = 0 ∧ m = 0 ∧ L = #[.int .u8 0, .int .u8 0, .int .u8 (n / 256 : Nat), .int .u8 (n % 256 : Nat)]) ∨
     (k = -1 ∧ m = 0 ∧ L = #[.int .u8 0, .int .u8 0, .int .u8 (n / 256 : Nat), .int .u8 (n % 256 : Nat)]))

set_option maxRecDepth 100000 in
set_option maxHeartbeats 1000000 in
theorem split_any (n : Nat) (hn : n ≤ 1025) (w : World) :
    Calls Try.prog 80 #[.int .i64 n] w fun e w' => e = .returned (.agg #[.int .u8 0, .int .u8 0, .int .u8 (n / 256 : Nat), .int .u8 (n % 256 : Nat)]) ∧ Below w.heap.size w w' := by
  go_enter Try.func80, Try.ntmps80
  go_wp2
  go_loopw [0, 4] (fun t i wr => SRel n w t i wr) (fun _ i _ => (intOf i + 1).toNat)
  case atStart => exact ⟨3, n, _, rfl, rfl, rfl, .inl ⟨rfl, rfl, rfl⟩⟩
  case round =>
    have hr := hrel
    unfold SRel at hr
    clear hrel
    obtain ⟨k, m, L, rfl, rfl, rfl, hr⟩ := hr
    rcases hr with ⟨rfl, rfl, rfl⟩ | ⟨rfl, rfl, rfl⟩ | ⟨rfl, rfl, rfl⟩ | ⟨rfl, rfl, rfl⟩ | ⟨rfl, rfl, rfl⟩
    · go_wp2
      go_roundw
      case rel => exact ⟨2, m / 256, _, rfl, by go_num, rfl, .inr (.inl ⟨rfl, rfl, by simp []⟩)⟩
      case measure => simp [intOf]
    · go_wp2
      go_roundw
      case rel => exact ⟨1, 0, _, rfl, by rw [show (n : Int) / 256 / 256 = 0 by omega]; rfl, rfl, .inr (.inr (.inl ⟨rfl, rfl, by simp []; omega⟩))⟩
      case measure => simp [intOf]
    · go_wp2
      go_roundw
      case rel => exact ⟨0, 0, _, rfl, rfl, rfl, .inr (.inr (.inr (.inl ⟨rfl, rfl, by simp []⟩)))⟩
      case measure => simp [intOf]
    · go_wp2
      go_roundw
      case rel => exact ⟨-1, 0, _, rfl, rfl, rfl, .inr (.inr (.inr (.inr ⟨rfl, rfl, by simp []⟩)))⟩
      case measure => simp [intOf]
    · go_wp2
      refine bodyPost_ret (v := .agg #[.int .u8 0, .int .u8 0, .int .u8 (n / 256 : Nat), .int .u8 (n % 256 : Nat)]) (by simp [results, Try.results80, go_sem]) rfl ⟨rfl, ?_⟩
      repeat refine Below.setCell ?_ (by simp) _
      exact ((Below.refl _ _).alloc (Nat.le_refl _) _).alloc (by simp) _

/-- What is wrong with a frame, as a number. -/
def frE (k : Int) (n t : Nat) : Int := if payE k n = 0 then (if t = 32 then 0 else 2) else payE k n
/-- A frame's bytes. -/
def frB (k : Int) (l tag : List Int) : List Int := [0, 0, (((l.length + 1) / 256 : Nat) : Int), (((l.length + 1) % 256 : Nat) : Int)] ++ ((k :: l) ++ tag)
def FPost (w : World) (k : Int) (l tag : List Int) (e : Ending) (w' : World) : Prop :=
  Below w.heap.size w w' ∧ ∃ (a : Option Addr) (m c : Nat) (r : List Int), e = .returned (.tuple #[.slice a m c, .int .i64 (frE k l.length tag.length)]) ∧ OwnB w' w.heap.size 5 a m c r ∧ r = (if frE k l.length tag.length = 0 then frB k l tag else [])
theorem payE_cases (k : Int) (n : Nat) : payE k n = 0 ∧ n ≤ 1024 ∧ 1 ≤ k ∧ k ≤ 3 ∨ payE k n = 3 ∨ payE k n = 23 := by
  unfold payE
  cases h : isK k
  · right; right; rfl
  · have hk : 1 ≤ k ∧ k ≤ 3 := by unfold isK at h; simpa using h
    by_cases hn : 1024 < n
    · right; left; simp [hn]
    · left; simp [hn]; omega

def three (p q r : Part) : Nat → Part
  | 0 => p
  | 1 => q
  | _ => r
theorem three_cells (W : World) (o : Obj) (p q r : Part) (k : Nat) (hk : k < 3) :
    ((W.alloc o).alloc (.cells #[.slice p.a p.n p.c, .slice q.a q.n q.c, .slice r.a r.n r.c] 22)).cell? ⟨W.heap.size + 1, k, none⟩ = some (.slice (three p q r k).a (three p q r k).n (three p q r k).c) := by
  have e : (W.alloc o).heap.size = W.heap.size + 1 := by simp
  rw [← e]
  rcases k with _ | _ | _ | k
  · simp [three]
  · simp [three]
  · simp [three]
  · omega
theorem three_bytes (V : World) (p q r : Part) (hp : Bytes V p.a p.n p.c p.l) (hq : Bytes V q.a q.n q.c q.l) (hr : Bytes V r.a r.n r.c r.l) (k : Nat) (hk : k < 3) : Bytes V (three p q r k).a (three p q r k).n (three p q r k).c (three p q r k).l := by
  rcases k with _ | _ | _ | k
  · exact hp
  · exact hq
  · exact hr
  · omega
theorem four_new (W : World) (x y : Int) (hx : 0 ≤ x ∧ x ≤ 255) (hy : 0 ≤ y ∧ y ≤ 255) : Bytes (W.alloc (.cells #[.int .u8 0, .int .u8 0, .int .u8 x, .int .u8 y] 116)) (some ⟨W.heap.size, 0, none⟩) 4 4 [0, 0, x, y] := by
  refine ⟨rfl, by omega, by omega, ?_, by simp, .inr ⟨_, 0, rfl, fun i hi => ?_⟩⟩
  · intro z hz
    simp only [List.mem_cons, List.not_mem_nil, or_false] at hz
    rcases hz with rfl | rfl | rfl | rfl <;> omega
  · rcases i with _ | _ | _ | _ | i
    · simp
    · simp
    · simp
    · simp
    · omega

set_option maxRecDepth 100000 in
set_option maxHeartbeats 2000000 in
theorem frame_any (k : Int) (a : Option Addr) (n c : Nat) (l : List Int) (a' : Option Addr) (n' c' : Nat) (tag : List Int) (w : World) (h : Bytes w a n c l) (h' : Bytes w a' n' c' tag) (k0 : -9223372036854775808 ≤ k) (k1 : k ≤ 9223372036854775807) :
    Calls Try.prog 49 #[.agg #[.int .i64 k, .slice a n c], .slice a' n' c'] w (FPost w k l tag) := by
  have hcap := h.cap; have hmost := h.most
  have hcap' := h'.cap; have hmost' := h'.most
  have hl := h.len; have hl' := h'.len
  subst hl hl'
  have HH := Lib.hid h; have HH' := Lib.hid h'
  clear h h'
  have hc := payE_cases k l.length
  by_cases hz : payE k l.length = 0
  · have hc1 : l.length ≤ 1024 ∧ 1 ≤ k ∧ k ≤ 3 := by
      rcases hc with ⟨_, h⟩ | h | h
      · exact h
      · omega
      · omega
    obtain ⟨hn, hk1, hk3⟩ := hc1
    have HZ := Lib.hid hz
    by_cases ht : tag.length = 32
    · have hE : frE k l.length tag.length = 0 := by unfold frE; rw [if_pos hz, if_pos ht]
      have HE := Lib.hid hE
      have HT := Lib.hid ht
      clear hE hc hz
      go_enter Try.func49, Try.ntmps49
      go_wp2_with fail
      refine (payload_any k a _ c l _ (HH.out.below ((Below.refl _ _).alloc (Nat.le_refl _) _)) k0 k1).mono ?_
      rintro e w1 ⟨hb1, a1, m1, c1, r1, rfl, ho1, hr1⟩
      rw [if_pos HZ.out] at hr1
      have hm1 : m1 = l.length + 1 := by rw [← ho1.len, hr1]; rfl
      subst hr1 hm1
      rw [HZ.out]
      rw [HT.out]
      have HO1 := Lib.hid ho1; have HB1 := Lib.hid (((Below.refl w.heap.size w).alloc (Nat.le_refl _) _).trans (hb1.mono (by simp)))
      have hs1 := hb1.size
      rw [World.size_alloc] at hs1
      clear ho1 hb1 ht
      go_wp2_with fail
      refine (split_any (l.length + 1) (by omega) _).mono ?_
      rintro e w2 ⟨rfl, hb2⟩
      have HB2 := Lib.hid (HB1.out.trans (hb2.mono HB1.out.size))
      have HO2 := Lib.hid (HO1.out.below hb2)
      have hs2 := Nat.le_trans hs1 hb2.size
      clear hb2
      go_wp2_with fail
      have hB3 : Below w2.heap.size w2 ((w2.alloc (.cells #[.int .u8 0, .int .u8 0, .int .u8 ((l.length + 1) / 256 : Nat), .int .u8 ((l.length + 1) % 256 : Nat)] 116)).alloc (.cells #[.slice (some ⟨w2.heap.size, 0, none⟩) 4 4, .slice a1 (l.length + 1) c1, .slice a' 32 c'] 22)) :=
        ((Below.refl _ _).alloc (Nat.le_refl _) _).alloc (by simp) _
      refine (concat_any (three ⟨some ⟨w2.heap.size, 0, none⟩, 4, 4, [0, 0, (((l.length + 1) / 256 : Nat) : Int), (((l.length + 1) % 256 : Nat) : Int)]⟩ ⟨a1, l.length + 1, c1, k :: l⟩ ⟨a', 32, c', tag⟩) _ 3 _ _ (three_cells w2 _ _ _ _)
        (three_bytes _ _ _ _ ((four_new w2 _ _ (by omega) (by omega)).below ((Below.refl _ _).alloc (Nat.le_refl _) _)) (HO2.out.bytes.below hB3) (by have := (HH'.out.below HB2.out).below hB3; rw [HT.out] at this; exact this)) (by simp only [tot, three]; omega) (by omega) (by omega) (by omega) (by simp only [tot, three]; omega)).mono ?_
      rintro e w3 ⟨a3, c3, rfl, ho3, hb3⟩
      have HO3 := Lib.hid (ho3.mono (Nat.le_trans HB2.out.size hB3.size)); have HB3 := Lib.hid ((HB2.out.trans (hB3.mono HB2.out.size)).trans (hb3.mono (Nat.le_trans HB2.out.size hB3.size)))
      clear ho3 hb3 hB3
      go_wp2
      go_ret2
      exact ⟨HB3.out, a3, _, c3, _, by rw [HE.out]; rfl, HO3.out, by rw [HE.out, if_pos rfl]; simp [cat, three, frB]⟩
    · have hE : frE k l.length tag.length = 2 := by unfold frE; rw [if_pos hz, if_neg ht]
      have HE := Lib.hid hE
      have d : ((tag.length : Int) != 32) = true := by rw [bne_iff_ne]; omega
      clear hE hc hz ht
      go_enter Try.func49, Try.ntmps49
      go_wp2_with fail
      refine (payload_any k a _ c l _ (HH.out.below ((Below.refl _ _).alloc (Nat.le_refl _) _)) k0 k1).mono ?_
      rintro e w1 ⟨hb1, a1, m1, c1, r1, rfl, ho1, hr1⟩
      rw [HZ.out]
      have HB1 := Lib.hid (((Below.refl w.heap.size w).alloc (Nat.le_refl _) _).trans (hb1.mono (by simp)))
      clear ho1 hb1 hr1
      go_wp2
      go_ret2
      exact ⟨HB1.out, none, 0, 0, [], by rw [HE.out]; rfl, OwnB.nil _ _ _, by rw [HE.out]; rfl⟩
  · have hE : frE k l.length tag.length = payE k l.length := by unfold frE; rw [if_neg hz]
    have d : (payE k l.length != 0) = true := by rw [bne_iff_ne]; exact hz
    have HE := Lib.hid hE
    have HZ := Lib.hid hz
    clear hE hz hc
    go_enter Try.func49, Try.ntmps49
    go_wp2_with fail
    refine (payload_any k a _ c l _ (HH.out.below ((Below.refl _ _).alloc (Nat.le_refl _) _)) k0 k1).mono ?_
    rintro e w1 ⟨hb1, a1, m1, c1, r1, rfl, ho1, hr1⟩
    have HB1 := Lib.hid (((Below.refl w.heap.size w).alloc (Nat.le_refl _) _).trans (hb1.mono (by simp)))
    clear ho1 hb1 hr1
    go_wp2
    go_ret2
    exact ⟨HB1.out, none, 0, 0, [], by rw [HE.out]; rfl, OwnB.nil _ _ _, by rw [HE.out, if_neg HZ.out]⟩

end Go.Proofs.Ytejhncdempfmjaa.en

/-
  Layer 46: the walks of the statements.
-/
namespace Go.Proofs.Ytejhncdempfmjaa.en
open Go.ChangeShapes Go.WideShapes Go.ChangeAt Go.RowKit
open bs
set_option linter.unusedVariables false

set_option maxRecDepth 100000 in
set_option maxHeartbeats 400000 in
theorem same_eq (k : Int) (a : Option Addr) (n c : Nat) (a' : Option Addr) (n' c' : Nat) (l : List Int) (w : World) (h : Bytes w a n c l) (h' : Bytes w a' n' c' l) :
    Calls Try.prog 58 #[.agg #[.int .i64 k, .slice a n c], .agg #[.int .i64 k, .slice a' n' c']] w fun e w' => e = .returned (.bool true) ∧ Below w.heap.size w w' := by
  have HB : ∀ o o' : Obj, Below w.heap.size w ((w.alloc o).alloc o') := fun o o' => ((Below.refl _ _).alloc (Nat.le_refl _) o).alloc (by simp) o'
  have HH := Lib.hid h; have HH' := Lib.hid h'; have HBB := Lib.hid HB
  clear h h' HB
  go_enter Try.func58, Try.ntmps58
  go_wp2_with fail
  refine (rsame_any _ _ _ l _ _ _ l _ (HH.out.below (HBB.out _ _)) (HH'.out.below (HBB.out _ _))).mono ?_
  rintro e w1 ⟨rfl, m1, rfl⟩
  rw [beq_self_eq_true]
  go_wp2
  go_ret
  exact ⟨rfl, below_drewN (HBB.out _ _) m1⟩

theorem sz_bd {m : List Int} (h : AllB m) : 0 ≤ sz m ∧ sz m ≤ 4294967295 := by
  have h0 := h.getD 0; have h1 := h.getD 1; have h2 := h.getD 2; have h3 := h.getD 3
  unfold sz four; omega

theorem read_any (a : Option Addr) (n c : Nat) (l : List Int) (p : Int) (w : World) (h : Bytes w a n c l) (hn : n ≤ 4611686018427387904) (p0 : -9223372036854775808 ≤ p) (p1 : p ≤ 9223372036854775807) :
    Calls Try.prog 70 #[.slice a n c, .int .i64 p] w (RPost l p w) := by
  by_cases hp : p < 0 ∨ (n : Int) < p
  · exact read_range a n c l p w h p0 p1 hp
  · obtain ⟨i, rfl⟩ := Int.eq_ofNat_of_zero_le (show 0 ≤ p by omega)
    by_cases h4 : n < i + 4
    · exact read_short a n c l i w h hn (by omega) h4
    · have hs := sz_bd (fun x hx => h.all x (List.mem_of_mem_drop (i := i) hx))
      by_cases z0 : sz (l.drop i) = 0
      · exact read_zero a n c l i w h hn (by omega) z0
      · by_cases z1 : 1025 < sz (l.drop i)
        · exact read_long a n c l i w h hn (by omega) z1
        · by_cases z2 : (n : Int) - i < 4 + sz (l.drop i) + 32
          · exact read_cut a n c l i w h hn (by omega) (by omega) (by omega) z2
          · cases hk : isK ((l.drop i).getD 4 0)
            · exact read_kind a n c l i w h hn (by omega) (by omega) (by omega) (by omega) hk
            · exact read_ok a n c l i w h hn (by omega) (by omega) (by omega) (by omega) hk

theorem ref_any (a : Option Addr) (n c : Nat) (l : List Int) (p : Int) (w : World) (h : Bytes w a n c l) (hn : n ≤ 4611686018427387904) (p0 : -9223372036854775808 ≤ p) (p1 : p ≤ 9223372036854775807) :
    Calls Try.prog 73 #[.slice a n c, .int .i64 p] w (RPost l p w) := by
  by_cases hp : p < 0 ∨ (n : Int) < p
  · exact ref_range a n c l p w h p0 p1 hp
  · obtain ⟨i, rfl⟩ := Int.eq_ofNat_of_zero_le (show 0 ≤ p by omega)
    by_cases h4 : n < i + 4
    · exact ref_short a n c l i w h hn (by omega) h4
    · have hs := sz_bd (fun x hx => h.all x (List.mem_of_mem_drop (i := i) hx))
      by_cases z0 : sz (l.drop i) = 0
      · exact ref_zero a n c l i w h hn (by omega) z0
      · by_cases z1 : 1025 < sz (l.drop i)
        · exact ref_long a n c l i w h hn (by omega) z1
        · by_cases z2 : (n : Int) - i < 4 + sz (l.drop i) + 32
          · exact ref_cut a n c l i w h hn (by omega) (by omega) (by omega) z2
          · cases hk : isK ((l.drop i).getD 4 0)
            · exact ref_kind a n c l i w h hn (by omega) (by omega) (by omega) (by omega) hk
            · exact ref_ok a n c l i w h hn (by omega) (by omega) (by omega) (by omega) hk

theorem rdE_zero {l : List Int} {p : Int} (hall : AllB l) (h : rdE l p = 0) : ∃ i s : Nat, p = i ∧ sz (l.drop i) = s ∧ 1 ≤ s ∧ s ≤ 1025 ∧ i + 36 + s ≤ l.length ∧ 1 ≤ (l.drop i).getD 4 0 ∧ (l.drop i).getD 4 0 ≤ 3 := by
  unfold rdE at h
  by_cases hp : p < 0 ∨ (l.length : Int) < p
  · rw [if_pos hp] at h; omega
  rw [if_neg hp] at h
  obtain ⟨i, rfl⟩ := Int.eq_ofNat_of_zero_le (show 0 ≤ p by omega)
  have hs := sz_bd (fun x hx => hall x (List.mem_of_mem_drop (i := i) hx))
  rw [Int.toNat_natCast] at h
  by_cases h4 : (l.length : Int) - i < 4
  · rw [if_pos h4] at h; omega
  rw [if_neg h4] at h
  by_cases z0 : sz (l.drop i) = 0
  · rw [if_pos z0] at h; omega
  rw [if_neg z0] at h
  by_cases z1 : 1025 < sz (l.drop i)
  · rw [if_pos z1] at h; omega
  rw [if_neg z1] at h
  by_cases z2 : (l.length : Int) - i < 4 + sz (l.drop i) + 32
  · rw [if_pos z2] at h; omega
  rw [if_neg z2] at h
  by_cases hk : isK ((l.drop i).getD 4 0) = true
  · have hk' : 1 ≤ (l.drop i).getD 4 0 ∧ (l.drop i).getD 4 0 ≤ 3 := by unfold isK at hk; simpa using hk
    exact ⟨i, (sz (l.drop i)).toNat, rfl, by omega, by omega, by omega, by omega, hk'.1, hk'.2⟩
  · rw [if_neg hk] at h; omega

/-- What was read was framed just so. -/
theorem framed (m : List Int) (hall : AllB m) (s : Nat) (hs : sz m = s) (h1 : 1 ≤ s) (h2 : s ≤ 1025) (hlen : 36 + s ≤ m.length) :
    frB (m.getD 4 0) ((m.drop 5).take (s - 1)) ((m.drop (4 + s)).take 32) = m.take (36 + s) := by
  have h0 := hall.getD 0; have h1' := hall.getD 1; have h2' := hall.getD 2; have h3' := hall.getD 3
  match m, hlen with
  | x0 :: x1 :: x2 :: x3 :: x4 :: r, hlen =>
    simp only [List.getD_cons_zero, List.getD_cons_succ] at h0 h1' h2' h3'
    obtain ⟨t, rfl⟩ : ∃ t, s = t + 1 := ⟨s - 1, by omega⟩
    unfold sz four at hs
    simp only [List.getD_cons_zero, List.getD_cons_succ] at hs
    have hr : t + 32 ≤ r.length := by simp at hlen; omega
    have hlr : ((r.take t).length + 1) = t + 1 := by rw [List.length_take]; omega
    unfold frB
    simp only [List.getD_cons_zero, List.getD_cons_succ, List.drop_succ_cons, List.drop_zero, Nat.add_sub_cancel, hlr, show 4 + (t + 1) = t + 1 + 1 + 1 + 1 + 1 by omega, show 36 + (t + 1) = (t + 32) + 1 + 1 + 1 + 1 + 1 by omega, List.take_succ_cons]
    rw [List.take_add]
    have q0 : x0 = 0 := by omega
    have q1 : x1 = 0 := by omega
    have q2 : x2 = ((t + 1) / 256 : Nat) := by omega
    have q3 : x3 = ((t + 1) % 256 : Nat) := by omega
    subst q0 q1 q2 q3
    rfl
  | [], hlen | [_], hlen | [_, _], hlen | [_, _, _], hlen | [_, _, _, _], hlen => simp at hlen <;> omega

end Go.Proofs.Ytejhncdempfmjaa.en

/-
  Layer 46: the statement on torn frames.
-/
namespace Go.Proofs.Ytejhncdempfmjaa.en
open Go.ChangeShapes Go.WideShapes Go.ChangeAt Go.RowKit
open bs
set_option linter.unusedVariables false

/-- An entry that comes in. -/
structure Ent where
  k : Int
  a : Option Addr
  n : Nat
  c : Nat
  l : List Int
def Ent.val (x : Ent) : Value := .agg #[.int .i64 x.k, .slice x.a x.n x.c]
def Ent.Rd (x : Ent) (w : World) : Prop := (-9223372036854775808 ≤ x.k ∧ x.k ≤ 9223372036854775807) ∧ Bytes w x.a x.n x.c x.l

set_option maxRecDepth 100000 in
theorem open_ent {H : Type} {enc : TypeId × Value → H} {w : World} {r : Reach} {b0 : Nat} {v : Value} {d : DataW H} {p : List MemPlace}
    (hv : Value.okWide Try.prog w r b0 35 v) (h : DataW.Trod enc Try.prog w 0 (fun _ => true) true 35 v d p) : ∃ x : Ent, v = x.val ∧ x.Rd w := by
  obtain ⟨v0, v1, y0, y1, m, rfl, rfl, rfl, h0, h1⟩ := Go.Joins.open_agg2 Try.underlying35 (by kernel_rfl) (by kernel_rfl) hv h
  obtain ⟨z, e0, _, wz⟩ := DataW.trod_int Try.underlying3 h0
  simp only [List.cons.injEq, and_true] at e0
  subst e0
  obtain ⟨a, n, c, l, rfl, hb, _⟩ := open_bytes_cell Try.underlying22 Try.underlying5 (by kernel_rfl) h1
  exact ⟨⟨z, a, n, c, l⟩, rfl, in64 wz, hb⟩

theorem frB_len (k : Int) (l tag : List Int) : (frB k l tag).length = 4 + (l.length + 1 + tag.length) := by simp [frB]; omega
theorem torn (k : Int) (l tag : List Int) (n : Nat) (hl : l.length ≤ 1024) (ht : tag.length = 32) (hn : n < (frB k l tag).length) : rdE ((frB k l tag).take n) 0 = 1 := by
  rw [frB_len] at hn
  have hlen : ((frB k l tag).take n).length = n := by rw [List.length_take, frB_len]; omega
  unfold rdE
  rw [hlen, if_neg (by omega)]
  by_cases h4 : (n : Int) - 0 < 4
  · rw [if_pos h4]
  rw [if_neg h4, Int.toNat_zero, List.drop_zero]
  have hs : sz ((frB k l tag).take n) = ((l.length + 1 : Nat) : Int) := by
    obtain ⟨j, rfl⟩ : ∃ j, n = j + 1 + 1 + 1 + 1 := ⟨n - 4, by omega⟩
    unfold frB sz four
    simp only [List.cons_append, List.nil_append, List.take_succ_cons, List.getD_cons_zero, List.getD_cons_succ]
    omega
  rw [hs, if_neg (by omega), if_neg (by omega), if_pos (by omega)]
theorem frE_zero {k : Int} {n t : Nat} (h : frE k n t = 0) : n ≤ 1024 ∧ t = 32 := by
  unfold frE at h
  rcases payE_cases k n with ⟨h1, h2, _⟩ | h1 | h1
  · rw [if_pos h1] at h
    by_cases ht : t = 32
    · exact ⟨h2, ht⟩
    · rw [if_neg ht] at h; omega
  · rw [if_neg (by omega)] at h; omega
  · rw [if_neg (by omega)] at h; omega

end Go.Proofs.Ytejhncdempfmjaa.en

/-
  Layer 46: the statement on what comes back.
-/
namespace Go.Proofs.Ytejhncdempfmjaa.en
open Go.ChangeShapes Go.WideShapes Go.ChangeAt Go.RowKit
open bs
set_option linter.unusedVariables false

set_option maxRecDepth 100000 in
set_option maxHeartbeats 2000000 in
theorem rframe_any (k : Int) (a : Option Addr) (n c : Nat) (l : List Int) (a' : Option Addr) (n' c' : Nat) (tag : List Int) (w : World) (h : Bytes w a n c l) (h' : Bytes w a' n' c' tag) (k0 : -9223372036854775808 ≤ k) (k1 : k ≤ 9223372036854775807) :
    Calls Try.prog 52 #[.agg #[.int .i64 k, .slice a n c], .slice a' n' c'] w (FPost w k l tag) := by
  have hcap := h.cap; have hmost := h.most
  have hcap' := h'.cap; have hmost' := h'.most
  have hl := h.len; have hl' := h'.len
  subst hl hl'
  have HH := Lib.hid h; have HH' := Lib.hid h'
  clear h h'
  have hc := payE_cases k l.length
  by_cases hz : payE k l.length = 0
  · have hc1 : l.length ≤ 1024 ∧ 1 ≤ k ∧ k ≤ 3 := by
      rcases hc with ⟨_, h⟩ | h | h
      · exact h
      · omega
      · omega
    obtain ⟨hn, hk1, hk3⟩ := hc1
    have HZ := Lib.hid hz
    by_cases ht : tag.length = 32
    · have hE : frE k l.length tag.length = 0 := by unfold frE; rw [if_pos hz, if_pos ht]
      have HE := Lib.hid hE
      have HT := Lib.hid ht
      clear hE hc hz
      go_enter Try.func52, Try.ntmps52
      go_wp2_with fail
      refine (rpayload_any k a _ c l _ (HH.out.below ((Below.refl _ _).alloc (Nat.le_refl _) _)) k0 k1).mono ?_
      rintro e w1 ⟨hb1, a1, m1, c1, r1, rfl, ho1, hr1⟩
      rw [if_pos HZ.out] at hr1
      have hm1 : m1 = l.length + 1 := by rw [← ho1.len, hr1]; rfl
      subst hr1 hm1
      rw [HZ.out]
      rw [HT.out]
      have HO1 := Lib.hid ho1; have HB1 := Lib.hid (((Below.refl w.heap.size w).alloc (Nat.le_refl _) _).trans (hb1.mono (by simp)))
      have HT' : Hid (Bytes w1 a' 32 c' tag) := by have := HH'.out.below HB1.out; rw [HT.out] at this; exact this
      clear ho1 hb1 ht
      have e1 : (((l.length + 1) / 256 : Nat) : Int) = ((l.length : Int) + 1) / 256 := by omega
      have e2 : (((l.length + 1) % 256 : Nat) : Int) = ((l.length : Int) + 1) % 256 := by omega
      have q1 : 0 ≤ ((l.length : Int) + 1) / 256 ∧ ((l.length : Int) + 1) / 256 ≤ 255 := by omega
      have q2 : 0 ≤ ((l.length : Int) + 1) % 256 ∧ ((l.length : Int) + 1) % 256 ≤ 255 := by omega
      have hfr : frB k l tag = [0, 0, ((l.length : Int) + 1) / 256, ((l.length : Int) + 1) % 256] ++ (k :: l) ++ tag := by unfold frB; rw [e1, e2, List.append_assoc]
      have HFR := Lib.hid hfr
      clear e1 e2 hfr
      have HM : Hid (OwnB (w1.alloc (.cells #[.int .u8 0, .int .u8 0, .int .u8 (((l.length : Int) + 1) / 256), .int .u8 (((l.length : Int) + 1) % 256)] 5)) w1.heap.size 5 (some ⟨w1.heap.size, 0, none⟩) 4 4 [0, 0, ((l.length : Int) + 1) / 256, ((l.length : Int) + 1) % 256]) :=
        OwnB.made w1 _ _ [0, 0, ((l.length : Int) + 1) / 256, ((l.length : Int) + 1) % 256] _ (by simp [cellsOf]) (Nat.le_refl _) (by simp [maxLen]) (by
          intro z hz
          simp only [List.mem_cons, List.not_mem_nil, or_false] at hz
          rcases hz with rfl | rfl | rfl | rfl <;> omega)
      have HW1 : Hid (Below w1.heap.size w1 (w1.alloc (.cells #[.int .u8 0, .int .u8 0, .int .u8 (((l.length : Int) + 1) / 256), .int .u8 (((l.length : Int) + 1) % 256)] 5))) := (Below.refl _ _).alloc (Nat.le_refl _) _
      have n1 : 4 + (l.length + 1) ≤ 140737488355328 := by omega
      go_wp2_with (at_builtin; with_reducible refine wpList_append_b byteT rfl (.tmp 32) (.tmp 33) rfl w1.heap.size rfl HM.out rfl (HO1.out.bytes.below HW1.out) n1 HW1.out.size ?_)
      intro a2 c2 w2 ho2 hb2 _
      have HO2 := Lib.hid ho2
      have HB2 := Lib.hid (HW1.out.trans hb2)
      clear ho2 hb2
      have n2 : 4 + (l.length + 1) + 32 ≤ 140737488355328 := by omega
      go_wp2_with (at_builtin; with_reducible refine wpList_append_b byteT rfl (.tmp 34) (.tmp 35) rfl w1.heap.size rfl HO2.out rfl (HT'.out.below HB2.out) n2 HB2.out.size ?_)
      intro a3 c3 w3 ho3 hb3 _
      have ho3' : OwnB w3 w1.heap.size 5 a3 (4 + (l.length + 1) + 32) c3 (frB k l tag) := by rw [HFR.out]; exact ho3
      have HO3 := Lib.hid (ho3'.mono HB1.out.size)
      have HB3 := Lib.hid (HB1.out.trans ((HB2.out.trans hb3).mono HB1.out.size))
      clear ho3 ho3' hb3
      go_wp2
      go_ret2
      exact ⟨HB3.out, a3, _, c3, _, by rw [HE.out]; rfl, HO3.out, by rw [HE.out, if_pos rfl]⟩
    · have hE : frE k l.length tag.length = 2 := by unfold frE; rw [if_pos hz, if_neg ht]
      have HE := Lib.hid hE
      have d : ((tag.length : Int) != 32) = true := by rw [bne_iff_ne]; omega
      clear hE hc hz ht
      go_enter Try.func52, Try.ntmps52
      go_wp2_with fail
      refine (rpayload_any k a _ c l _ (HH.out.below ((Below.refl _ _).alloc (Nat.le_refl _) _)) k0 k1).mono ?_
      rintro e w1 ⟨hb1, a1, m1, c1, r1, rfl, ho1, hr1⟩
      rw [HZ.out]
      have HB1 := Lib.hid (((Below.refl w.heap.size w).alloc (Nat.le_refl _) _).trans (hb1.mono (by simp)))
      clear ho1 hb1 hr1
      go_wp2
      go_ret2
      exact ⟨HB1.out.alloc HB1.out.size _, _, 0, 0, [], by rw [HE.out]; rfl, (OwnB.made w1 _ _ [] #[] rfl (Nat.le_refl _) (by simp [maxLen]) (by simp [AllB])).mono HB1.out.size, by rw [HE.out]; rfl⟩
  · have hE : frE k l.length tag.length = payE k l.length := by unfold frE; rw [if_neg hz]
    have d : (payE k l.length != 0) = true := by rw [bne_iff_ne]; exact hz
    have HE := Lib.hid hE
    have HZ := Lib.hid hz
    clear hE hz hc
    go_enter Try.func52, Try.ntmps52
    go_wp2_with fail
    refine (rpayload_any k a _ c l _ (HH.out.below ((Below.refl _ _).alloc (Nat.le_refl _) _)) k0 k1).mono ?_
    rintro e w1 ⟨hb1, a1, m1, c1, r1, rfl, ho1, hr1⟩
    have HB1 := Lib.hid (((Below.refl w.heap.size w).alloc (Nat.le_refl _) _).trans (hb1.mono (by simp)))
    clear ho1 hb1 hr1
    go_wp2
    go_ret2
    exact ⟨HB1.out.alloc HB1.out.size _, _, 0, 0, [], by rw [HE.out]; rfl, (OwnB.made w1 _ _ [] #[] rfl (Nat.le_refl _) (by simp [maxLen]) (by simp [AllB])).mono HB1.out.size, by rw [HE.out, if_neg HZ.out]⟩

/-- What was framed is read, whatever stands ahead and behind. -/
theorem reads_back (k : Int) (l tag ah : List Int) (hl : l.length ≤ 1024) (ht : tag.length = 32) (hk1 : 1 ≤ k) (hk3 : k ≤ 3) :
    rdE (ah ++ frB k l tag ++ ah) ah.length = 0 ∧ ((ah ++ frB k l tag ++ ah).drop ah.length).getD 4 0 = k ∧ sz ((ah ++ frB k l tag ++ ah).drop ah.length) = ((l.length + 1 : Nat) : Int) ∧
    ((ah ++ frB k l tag ++ ah).drop ah.length).drop 5 = l ++ (tag ++ ah) := by
  have hd : (ah ++ frB k l tag ++ ah).drop ah.length = frB k l tag ++ ah := by rw [List.append_assoc, List.drop_left]
  have h1 : (frB k l tag ++ ah).getD 4 0 = k := rfl
  have h2 : sz (frB k l tag ++ ah) = ((l.length + 1 : Nat) : Int) := by
    unfold frB sz four
    simp only [List.cons_append, List.nil_append, List.getD_cons_zero, List.getD_cons_succ]
    omega
  have h3 : (frB k l tag ++ ah).drop 5 = l ++ (tag ++ ah) := by unfold frB; simp
  rw [hd]
  refine ⟨?_, h1, h2, h3⟩
  have hlen : (ah ++ frB k l tag ++ ah).length = ah.length + (l.length + 37) + ah.length := by
    rw [List.length_append, List.length_append, frB_len]; omega
  unfold rdE
  rw [Int.toNat_natCast, hd, h1, h2, hlen, if_neg (by omega), if_neg (by omega), if_neg (by omega), if_neg (by omega), if_neg (by omega), if_pos (by unfold isK; exact decide_eq_true ⟨hk1, hk3⟩)]

theorem frE_zero' {k : Int} {n t : Nat} (h : frE k n t = 0) : n ≤ 1024 ∧ t = 32 ∧ 1 ≤ k ∧ k ≤ 3 := by
  obtain ⟨h1, h2⟩ := frE_zero h
  unfold frE at h
  rcases payE_cases k n with ⟨h3, _, h4⟩ | h3 | h3
  · exact ⟨h1, h2, h4⟩
  · rw [if_neg (by omega)] at h; omega
  · rw [if_neg (by omega)] at h; omega

end Go.Proofs.Ytejhncdempfmjaa.en
