/-
  Layer 46: small contracts: kinds, lengths, copies, payloads.
-/
import Derived.Test.YtcncfljpbbpaoaaOwn
import Derived.Test.YtcncfljpbbpaoaaSame
import Derived.WalkLawsBesides
import Derived.WalkSpells
namespace Go.Proofs.Ytcncfljpbbpaoaa.en
open Go.ChangeShapes Go.WideShapes Go.ChangeAt Go.RowKit
open bs
set_option linter.unusedVariables false

theorem byteT : ByteT Try.prog 46 5 := ⟨Try.underlying46, by kernel_rfl⟩
theorem u8_wrap (x : Int) : IntKind.u8.wrap x = x % 256 := by
  simp only [IntKind.wrap, IntKind.signed, IntKind.bits, Bool.false_and]
  exact if_neg (by simp)
/-- Are there entries of a kind? -/
def isK (k : Int) : Bool := decide (1 ≤ k ∧ k ≤ 3)
def APost (w : World) (base n : Nat) (l : List Int) (e : Ending) (w' : World) : Prop :=
  ∃ (a : Option Addr) (c : Nat), e = .returned (.slice a n c) ∧ OwnB w' base 5 a n c l ∧ Below base w w'

set_option maxHeartbeats 400000 in
theorem kind_any (k : Int) (w : World) : Calls Try.prog 57 #[.int .i64 k] w fun e w' => e = .returned (.bool (isK k)) ∧ w = w' := by
  by_cases h1 : k = 1
  · subst h1
    go_enter Try.func57, Try.ntmps57
    go_wp2
    go_ret
    exact ⟨rfl, rfl⟩
  · by_cases h2 : k = 2
    · subst h2
      go_enter Try.func57, Try.ntmps57
      go_wp2
      go_ret
      exact ⟨rfl, rfl⟩
    · by_cases h3 : k = 3
      · subst h3
        go_enter Try.func57, Try.ntmps57
        go_wp2
        go_ret
        exact ⟨rfl, rfl⟩
      · have d1 : (k == 1) = false := by simpa using h1
        have d2 : (k == 2) = false := by simpa using h2
        have d3 : (k == 3) = false := by simpa using h3
        have hk : isK k = false := by unfold isK; exact decide_eq_false (by omega)
        rw [hk]
        clear h1 h2 h3 hk
        go_enter Try.func57, Try.ntmps57
        go_wp2
        go_ret
        exact ⟨rfl, rfl⟩

set_option maxRecDepth 100000 in
set_option maxHeartbeats 400000 in
theorem clone_any (a : Option Addr) (n c : Nat) (l : List Int) (w : World) (h : Bytes w a n c l) (hn : n ≤ 140737488355328) : Calls Try.prog 61 #[.slice a n c] w (APost w w.heap.size n l) := by
  rcases Option.eq_none_or_eq_some a with rfl | ⟨ad, rfl⟩
  · have hc := h.nil rfl
    have hcap := h.cap
    obtain rfl : n = 0 := by omega
    subst hc
    have hl := List.eq_nil_of_length_eq_zero h.len
    subst hl
    clear h hcap
    have heq : ∀ W : World, (binOp .eql 46 (.slice none 0 0) (.slice none 0 0)).run Try.prog W = .ok (.bool true) W := fun W => Lib.run_eql_slice_nil W _ _ none 0 0 0 0 Try.underlying46
    go_enter Try.func61, Try.ntmps61
    go_wp2
    go_ret
    exact ⟨none, 0, rfl, OwnB.nil _ _ _, Below.refl _ _⟩
  · have HH := Lib.hid h
    have hcap := h.cap; have hmost := h.most
    clear h
    have heq : ∀ W : World, (binOp .eql 46 (.slice (some ad) n c) (.slice none 0 0)).run Try.prog W = .ok (.bool false) W := fun W => Lib.run_eql_slice_nil W _ _ (some ad) n c 0 0 Try.underlying46
    go_enter Try.func61, Try.ntmps61
    go_wp2_with (at_builtin; refine wpList_append_b byteT rfl _ _ rfl w.heap.size rfl (l := []) ?o1 rfl (l' := l) ?b1 ?_ ?_ ?_)
    case o1 => exact OwnB.made w _ _ [] _ rfl (Nat.le_refl _) (by simp [maxLen]) (by simp [AllB])
    case b1 => exact HH.out.below ((Below.refl _ _).alloc (Nat.le_refl _) _)
    all_goals try (first | omega | (simp; done))
    intro a2 c2 w2 ho2 hb2 _
    have HO := Lib.hid ho2; have HB := Lib.hid (((Below.refl w.heap.size w).alloc (Nat.le_refl _) _).trans hb2)
    clear ho2 hb2
    go_wp2
    go_ret
    refine ⟨a2, c2, ?_, ?_, HB.out⟩
    · first | rfl | (rw [Nat.zero_add])
    · have := HO.out
      first | exact this | simpa using this

/-- What four bytes tell. -/
def four (p q r s : Int) : Int := ((p * 256 + q) * 256 + r) * 256 + s

def JRel (p q r s : Int) (n i : Value) : Prop :=
  (i = .int .i64 0 ∧ n = .int .i64 0) ∨ (i = .int .i64 1 ∧ n = .int .i64 p) ∨ (i = .int .i64 2 ∧ n = .int .i64 (p * 256 + q)) ∨ (i = .int .i64 3 ∧ n = .int .i64 ((p * 256 + q) * 256 + r)) ∨ (i = .int .i64 4 ∧ n = .int .i64 (four p q r s))

set_option maxRecDepth 100000 in
set_option maxHeartbeats 400000 in
theorem joined_any (p q r s : Int) (w : World) (hp : 0 ≤ p ∧ p ≤ 255) (hq : 0 ≤ q ∧ q ≤ 255) (hr : 0 ≤ r ∧ r ≤ 255) (hs : 0 ≤ s ∧ s ≤ 255) :
    Calls Try.prog 60 #[.agg #[.int .u8 p, .int .u8 q, .int .u8 r, .int .u8 s]] w fun e w' => e = .returned (.int .i64 (four p q r s)) ∧ Below w.heap.size w w' := by
  obtain ⟨p0, p1⟩ := hp
  obtain ⟨q0, q1⟩ := hq
  obtain ⟨r0, r1⟩ := hr
  obtain ⟨s0, s1⟩ := hs
  have i0 : ∀ w, (Instr.index 93 (.agg #[.int .u8 p, .int .u8 q, .int .u8 r, .int .u8 s]) (.int .i64 0)).run Try.prog w = .ok (.int .u8 p) w := fun _ => by simp [Instr.index, asIntOf, Try.underlying93, go_sem]
  have i1 : ∀ w, (Instr.index 93 (.agg #[.int .u8 p, .int .u8 q, .int .u8 r, .int .u8 s]) (.int .i64 1)).run Try.prog w = .ok (.int .u8 q) w := fun _ => by simp [Instr.index, asIntOf, Try.underlying93, go_sem]
  have i2 : ∀ w, (Instr.index 93 (.agg #[.int .u8 p, .int .u8 q, .int .u8 r, .int .u8 s]) (.int .i64 2)).run Try.prog w = .ok (.int .u8 r) w := fun _ => by simp [Instr.index, asIntOf, Try.underlying93, go_sem]
  have i3 : ∀ w, (Instr.index 93 (.agg #[.int .u8 p, .int .u8 q, .int .u8 r, .int .u8 s]) (.int .i64 3)).run Try.prog w = .ok (.int .u8 s) w := fun _ => by simp [Instr.index, asIntOf, Try.underlying93, go_sem]
  go_enter Try.func60, Try.ntmps60
  go_wp2_with fail
  go_loop [3, 7] (fun n i => JRel p q r s n i) (fun _ i => (4 - intOf i).toNat)
  case atStart => exact .inl ⟨rfl, rfl⟩
  case round =>
    have hr := hrel
    unfold JRel at hr
    clear hrel
    rcases hr with ⟨rfl, rfl⟩ | ⟨rfl, rfl⟩ | ⟨rfl, rfl⟩ | ⟨rfl, rfl⟩ | ⟨rfl, rfl⟩
    · go_wp2
      go_round
      case rel => exact .inr (.inl ⟨rfl, rfl⟩)
      case measure => simp [intOf]
    · go_wp2
      go_round
      case rel => exact .inr (.inr (.inl ⟨rfl, rfl⟩))
      case measure => simp [intOf]
    · go_wp2
      go_round
      case rel => exact .inr (.inr (.inr (.inl ⟨rfl, rfl⟩)))
      case measure => simp [intOf]
    · go_wp2
      go_round
      case rel => exact .inr (.inr (.inr (.inr ⟨rfl, rfl⟩)))
      case measure => simp [intOf]
    · go_wp2
      go_ret
      exact ⟨rfl, (Below.refl _ _).alloc (Nat.le_refl _) _⟩

/-- What is wrong with an entry, as a number. -/
def payE (k : Int) (n : Nat) : Int := if isK k then (if 1024 < n then 3 else 0) else 23
def PPost (w : World) (k : Int) (n : Nat) (l : List Int) (e : Ending) (w' : World) : Prop :=
  Below w.heap.size w w' ∧ ∃ (a : Option Addr) (m c : Nat) (r : List Int), e = .returned (.tuple #[.slice a m c, .int .i64 (payE k n)]) ∧ OwnB w' w.heap.size 5 a m c r ∧ r = (if payE k n = 0 then k :: l else [])

set_option maxRecDepth 100000 in
set_option maxHeartbeats 1000000 in
theorem payload_any (k : Int) (a : Option Addr) (n c : Nat) (l : List Int) (w : World) (h : Bytes w a n c l) (k0 : -9223372036854775808 ≤ k) (k1 : k ≤ 9223372036854775807) :
    Calls Try.prog 28 #[.agg #[.int .i64 k, .slice a n c]] w (PPost w k n l) := by
  have HH := Lib.hid h
  have hcap := h.cap; have hmost := h.most
  clear h
  rcases Bool.eq_false_or_eq_true (isK k) with hk | hk
  · by_cases hn : 1024 < n
    · have hE : payE k n = 3 := by unfold payE; rw [hk, if_pos rfl, if_pos hn]
      have HE := Lib.hid hE; have HK := Lib.hid hk
      clear hE hk
      go_enter Try.func28, Try.ntmps28
      go_wp2_with fail
      refine (kind_any k _).mono ?_
      rintro e w' ⟨rfl, rfl⟩
      rw [HK.out]
      go_wp2
      go_ret2
      exact ⟨(Below.refl _ _).alloc (Nat.le_refl _) _, none, 0, 0, [], by rw [HE.out]; rfl, OwnB.nil _ _ _, by rw [HE.out]; rfl⟩
    · have hE : payE k n = 0 := by unfold payE; rw [hk, if_pos rfl, if_neg hn]
      have hkb : 1 ≤ k ∧ k ≤ 3 := by simpa [isK] using hk
      obtain ⟨b0, b1⟩ := hkb
      have HE := Lib.hid hE; have HK := Lib.hid hk
      clear hE hk
      go_enter Try.func28, Try.ntmps28
      go_wp2_with fail
      refine (kind_any k _).mono ?_
      rintro e w' ⟨rfl, rfl⟩
      rw [HK.out]
      go_wp2_with (at_builtin; refine wpList_append_b byteT rfl _ _ rfl w.heap.size rfl (l := [k]) ?o1 rfl (l' := l) ?b1 ?_ ?_ ?_)
      case o1 => simpa using OwnB.made (w.alloc (.cells #[.int .i64 k, .slice a n c] 48)) w.heap.size 5 [k] #[.int .u8 k] rfl (by simp) (by simp [maxLen]) (by simp [AllB]; omega)
      case b1 => exact HH.out.below (((Below.refl _ _).alloc (Nat.le_refl _) _).alloc (by simp) _)
      all_goals try (first | omega | (simp; done) | (simp; omega))
      intro a2 c2 w2 ho2 hb2 _
      have HO := Lib.hid ho2; have HB := Lib.hid ((((Below.refl w.heap.size w).alloc (Nat.le_refl _) _).alloc (by simp) _).trans hb2)
      clear ho2 hb2
      go_wp2
      go_ret2
      exact ⟨HB.out, a2, _, c2, k :: l, by rw [HE.out]; rfl, HO.out, by rw [HE.out]; rfl⟩
  · have hE : payE k n = 23 := by unfold payE; rw [hk]; rfl
    have HE := Lib.hid hE; have HK := Lib.hid hk
    clear hE hk
    go_enter Try.func28, Try.ntmps28
    go_wp2_with fail
    refine (kind_any k _).mono ?_
    rintro e w' ⟨rfl, rfl⟩
    rw [HK.out]
    go_wp2
    go_ret2
    exact ⟨(Below.refl _ _).alloc (Nat.le_refl _) _, none, 0, 0, [], by rw [HE.out]; rfl, OwnB.nil _ _ _, by rw [HE.out]; rfl⟩

set_option maxRecDepth 100000 in
set_option maxHeartbeats 1000000 in
theorem rpayload_any (k : Int) (a : Option Addr) (n c : Nat) (l : List Int) (w : World) (h : Bytes w a n c l) (k0 : -9223372036854775808 ≤ k) (k1 : k ≤ 9223372036854775807) :
    Calls Try.prog 29 #[.agg #[.int .i64 k, .slice a n c]] w (PPost w k n l) := by
  have HH := Lib.hid h
  have hcap := h.cap; have hmost := h.most
  clear h
  by_cases h1 : k < 1
  · have hE : payE k n = 23 := by unfold payE isK; rw [decide_eq_false (by omega)]; rfl
    have HE := Lib.hid hE
    clear hE
    go_enter Try.func29, Try.ntmps29
    go_wp2
    go_ret2
    refine ⟨((Below.refl _ _).alloc (Nat.le_refl _) _).alloc (by simp) _, _, 0, 0, [], by rw [HE.out]; rfl, ?_, by rw [HE.out]; rfl⟩
    simpa using OwnB.made (w.alloc (.cells #[.int .i64 k, .slice a n c] 48)) w.heap.size 5 [] #[] rfl (by simp) (by simp [maxLen]) (by simp [AllB])
  · have d1 : decide (k < 1) = false := decide_eq_false h1
    by_cases h3 : 3 < k
    · have hE : payE k n = 23 := by unfold payE isK; rw [decide_eq_false (by omega)]; rfl
      have HE := Lib.hid hE
      clear hE h1
      go_enter Try.func29, Try.ntmps29
      go_wp2
      go_ret2
      refine ⟨((Below.refl _ _).alloc (Nat.le_refl _) _).alloc (by simp) _, _, 0, 0, [], by rw [HE.out]; rfl, ?_, by rw [HE.out]; rfl⟩
      simpa using OwnB.made (w.alloc (.cells #[.int .i64 k, .slice a n c] 48)) w.heap.size 5 [] #[] rfl (by simp) (by simp [maxLen]) (by simp [AllB])
    · have d2 : decide (3 < k) = false := decide_eq_false h3
      have hk : isK k = true := by unfold isK; exact decide_eq_true (by omega)
      have b0 : 1 ≤ k := by omega
      have b1 : k ≤ 3 := by omega
      by_cases hn : 1024 < n
      · have hE : payE k n = 3 := by unfold payE; rw [hk, if_pos rfl, if_pos hn]
        have HE := Lib.hid hE
        clear hE h1 h3 hk
        go_enter Try.func29, Try.ntmps29
        go_wp2
        go_ret2
        refine ⟨((Below.refl _ _).alloc (Nat.le_refl _) _).alloc (by simp) _, _, 0, 0, [], by rw [HE.out]; rfl, ?_, by rw [HE.out]; rfl⟩
        simpa using OwnB.made (w.alloc (.cells #[.int .i64 k, .slice a n c] 48)) w.heap.size 5 [] #[] rfl (by simp) (by simp [maxLen]) (by simp [AllB])
      · have hE : payE k n = 0 := by unfold payE; rw [hk, if_pos rfl, if_neg hn]
        have HE := Lib.hid hE
        clear hE h1 h3 hk
        go_enter Try.func29, Try.ntmps29
        go_wp2_with (at_builtin; refine wpList_append_b byteT rfl _ _ rfl w.heap.size rfl (l := [k]) ?o1 rfl (l' := l) ?b1 ?_ ?_ ?_)
        case o1 => simpa using OwnB.made (w.alloc (.cells #[.int .i64 k, .slice a n c] 48)) w.heap.size 5 [k] #[.int .u8 k] rfl (by simp) (by simp [maxLen]) (by simp [AllB]; omega)
        case b1 => exact HH.out.below (((Below.refl _ _).alloc (Nat.le_refl _) _).alloc (by simp) _)
        all_goals try (first | omega | (simp; done) | (simp; omega))
        intro a2 c2 w2 ho2 hb2 _
        have HO := Lib.hid ho2; have HB := Lib.hid ((((Below.refl w.heap.size w).alloc (Nat.le_refl _) _).alloc (by simp) _).trans hb2)
        clear ho2 hb2
        go_wp2
        go_ret2
        exact ⟨HB.out, a2, _, c2, k :: l, by rw [HE.out]; rfl, HO.out, by rw [HE.out]; rfl⟩

end Go.Proofs.Ytcncfljpbbpaoaa.en
