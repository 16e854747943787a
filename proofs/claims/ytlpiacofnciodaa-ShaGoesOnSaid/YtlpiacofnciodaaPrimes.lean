/-
  Layer 2's primes: plain facts, and the contracts of both lists of primes.
-/
import Derived.Test.YtlpiacofnciodaaRootSquare
import Derived.Test.YtlpiacofnciodaaI64s
import Derived.Test.YtlpiacofnciodaaPrimePlain
namespace Go.Proofs.Ytlpiacofnciodaa.rs
open Go.ChangeShapes Go.WideShapes Go.ChangeAt Go.RowKit
open bs
set_option linter.unusedVariables false

/-- How many primes are asked for. -/
def cnt (n : Int) : Nat := (min (max n 0) 100).toNat
theorem cnt_le (n : Int) : cnt n ≤ 100 := by unfold cnt; omega
theorem cnt_cast (n : Int) : (min (max n 0) 100 : Int) = (cnt n : Int) := by unfold cnt; omega

theorem i64T : I64T Try.prog 44 3 := ⟨Try.underlying44, by kernel_rfl⟩

theorem noneOf_take (p : Int) (l : List Int) (k : Nat) (hk : k < l.length) (h : noneOf p (l.take k) = true) : noneOf p (l.take (k + 1)) = (p % l.getD k 0 != 0) := by
  unfold noneOf at *
  rw [List.take_add_one, List.getElem?_eq_getElem hk, List.getD_eq_getElem?_getD, List.getElem?_eq_getElem hk]
  simp only [Option.toList, List.all_append, h, Bool.true_and, List.all_cons, List.all_nil, Bool.and_true, Option.getD_some]
theorem noneOf_false (p : Int) (l : List Int) (k : Nat) (hk : k < l.length) (h : p % l.getD k 0 = 0) : noneOf p l = false := by
  unfold noneOf
  rw [List.all_eq_false]
  refine ⟨l[k], List.getElem_mem hk, ?_⟩
  rw [List.getD_eq_getElem?_getD, List.getElem?_eq_getElem hk] at h
  simp only [Option.getD_some] at h
  simp [h]

set_option maxHeartbeats 1000000 in
theorem isPrime_any (p : Int) (a : Option Addr) (n c : Nat) (l : List Int) (w : World) (h : I64s w a n c l) (hp : 0 ≤ p) (hp2 : p ≤ 1000) (hl : ∀ q ∈ l, 2 ≤ q ∧ q ≤ 1000) :
    Calls Try.prog 43 #[.int .i64 p, .slice a n c] w fun e w' => e = .returned (.bool (noneOf p l)) ∧ w = w' := by
  have hm := h.most
  have hk := h.cap
  have hlen := Lib.hid h.len
  have HL := Lib.hid hl; clear hl
  have HX := Lib.hid h; clear h
  go_enter Try.func43, Try.ntmps43
  go_wp2
  go_loop [9] (fun i => ∃ k : Nat, k ≤ n ∧ i = .int .i64 k ∧ Hid (noneOf p (l.take k) = true)) (fun i => n - (intOf i).toNat)
  case atStart => exact ⟨0, by omega, rfl, by show noneOf p (l.take 0) = true; simp [noneOf]⟩
  case round =>
    obtain ⟨k, hk1, rfl, ht⟩ := hrel
    by_cases hkn : k < n
    · obtain ⟨b, off, rfl, hc⟩ := HX.out.at'.resolve_left (by omega)
      have c1 := hc k hkn
      have hlk : k < l.length := by rw [hlen.out]; exact hkn
      have hq := HL.out (l.getD k 0) (by rw [List.getD_eq_getElem?_getD, List.getElem?_eq_getElem hlk]; exact List.getElem_mem hlk)
      have hstep := noneOf_take p l k hlk ht.out
      have hfal := noneOf_false p l k hlk
      have HLK := Lib.hid hlk
      clear hc hlk
      obtain ⟨q, hqe⟩ : ∃ q, l.getD k 0 = q := ⟨_, rfl⟩
      rw [hqe] at c1 hq hstep hfal
      obtain ⟨q0, q1⟩ := hq
      have HS := Lib.hid hstep; have HF := Lib.hid hfal
      clear hstep hfal hqe
      by_cases hz : p % q = 0
      · have hb : (p % q == 0) = true := by simpa using hz
        have HZ := Lib.hid hz; clear hz
        go_wp2
        go_ret
        exact ⟨ret_bool (HF.out HZ.out).symm, rfl⟩
      · have hb : (p % q == 0) = false := by simpa using hz
        have HZ := Lib.hid hz; clear hz
        go_wp2
        go_round
        case rel => exact ⟨k + 1, by omega, by go_num, by show noneOf p (l.take (k + 1)) = true; rw [HS.out, bne_iff_ne]; exact HZ.out⟩
        case measure => simp [intOf]; omega
    · obtain rfl : k = n := by omega
      go_wp2
      go_ret
      have e := ht.out
      rw [List.take_of_length_le (by rw [hlen.out]; omega)] at e
      exact ⟨ret_bool e.symm, rfl⟩

theorem trial_step (n f k : Nat) (h1 : ¬ n < k * k) (h2 : ¬ n % k = 0) : trial n (f + 1) k = trial n f (k + 1) := by
  simp only [trial, if_neg h1, if_neg h2]
theorem trial_end (n f k : Nat) (h1 : n < k * k) : trial n f k = true := by
  cases f with
  | zero => rfl
  | succ f => simp only [trial, if_pos h1]
theorem trial_no (n f k : Nat) (h1 : ¬ n < k * k) (h2 : n % k = 0) : trial n (f + 1) k = false := by
  simp only [trial, if_neg h1, if_pos h2]

set_option maxHeartbeats 1000000 in
theorem rprime_any (n : Nat) (w : World) (h0 : 2 ≤ n) (h1 : n < 600) :
    Calls Try.prog 37 #[.int .i64 n] w fun e w' => e = .returned (.bool (isP n)) ∧ w = w' := by
  have HT := Lib.hid (trial_all ⟨n, h1⟩ h0)
  have d1 : decide (1 < n) = true := decide_eq_true (by omega)
  have d2 : decide ((1 : Int) < (n : Int)) = true := decide_eq_true (by omega)
  go_enter Try.func37, Try.ntmps37
  go_wp2
  go_loop [3] (fun i => ∃ k f : Nat, 2 ≤ k ∧ k + f = 32 ∧ i = .int .i64 k ∧ Hid (trial n f k = isP n)) (fun i => (32 - intOf i).toNat)
  case atStart => exact ⟨2, 30, by omega, by omega, rfl, HT.out⟩
  case round =>
    obtain ⟨k, f, hk, hf, rfl, ht⟩ := hrel
    have HF := Lib.hid hf
    have hk32 : k ≤ 32 := by omega
    clear hf
    have hkk : k * k ≤ 1024 := Nat.mul_le_mul hk32 hk32
    have hcast : (k : Int) * k = ((k * k : Nat) : Int) := by push_cast; rfl
    by_cases hend : n < k * k
    · have hd : decide ((k : Int) * k ≤ n) = false := decide_eq_false (by rw [hcast]; omega)
      have he : isP n = true := by rw [← ht.out]; exact trial_end n f k hend
      have HE := Lib.hid he
      clear hcast he
      go_wp2
      go_ret
      exact ⟨ret_bool HE.out.symm, rfl⟩
    · have hd : decide ((k : Int) * k ≤ n) = true := decide_eq_true (by rw [hcast]; omega)
      have hk31 : k ≤ 24 := by
        apply Classical.byContradiction
        intro hn
        have : 25 * 25 ≤ k * k := Nat.mul_le_mul (by omega) (by omega)
        omega
      obtain ⟨g, rfl⟩ : ∃ g, f = g + 1 := ⟨f - 1, by have := HF.out; omega⟩
      by_cases hz : n % k = 0
      · have hb : ((n : Int) % k == 0) = true := by rw [beq_iff_eq]; omega
        have he : isP n = false := by rw [← ht.out]; exact trial_no n g k hend hz
        have HE := Lib.hid he
        clear hcast he hz
        go_wp2
        go_ret
        exact ⟨ret_bool HE.out.symm, rfl⟩
      · have hb : ((n : Int) % k == 0) = false := by rw [beq_eq_false_iff_ne]; omega
        have he : trial n g (k + 1) = isP n := by rw [← ht.out, trial_step n g k hend hz]
        have HE := Lib.hid he
        clear hcast he hz
        go_wp2
        go_round
        case rel => exact ⟨k + 1, g, by omega, by have := HF.out; omega, by go_num, HE.out⟩
        case measure => simp [intOf]; omega


def NPost (w : World) (n : Int) (e : Ending) (w' : World) : Prop :=
  ∃ (a : Option Addr) (c p : Nat), e = .returned (.slice a (cnt n) c) ∧ OwnI w' w.heap.size 3 a (cnt n) c (pl p) ∧ Below w.heap.size w w' ∧ (pl p).length = cnt n
def NRel (w : World) (n : Int) (out x : Value) (wr : World) : Prop :=
  ∃ (a : Option Addr) (m c p : Nat), out = .slice a m c ∧ x = .int .i64 p ∧ OwnI wr w.heap.size 3 a m c (pl p) ∧ Below w.heap.size w wr ∧ (pl p).length = m ∧ m ≤ cnt n ∧ 2 ≤ p ∧ p ≤ 542

theorem pl_yes {p : Nat} (h : isP p = true) : pl (p + 1) = pl p ++ [(p : Int)] := by rw [pl_add, h]; rfl
theorem pl_no {p : Nat} (h : isP p = false) : pl (p + 1) = pl p := by rw [pl_add, h]; rfl
theorem pl_two : pl 2 = [] := by decide +kernel

set_option maxHeartbeats 1000000 in
theorem primes_any (n : Int) (w : World) (h0 : -9223372036854775808 ≤ n) (h1 : n ≤ 9223372036854775807) :
    Calls Try.prog 32 #[.int .i64 n] w (NPost w n) := by
  have hc := cnt_le n
  go_enter Try.func32, Try.ntmps32
  go_wp2
  go_loopw [3, 4] (fun out x wr => NRel w n out x wr) (fun _ x _ => (542 - intOf x).toNat)
  case atStart => exact ⟨none, 0, 0, 2, rfl, rfl, by rw [pl_two]; exact OwnI.nil _ _ _, Below.refl _ _, by rw [pl_two]; rfl, by omega, by omega, by omega⟩
  case round =>
    obtain ⟨a, m, c, p, rfl, rfl, ho, hb, hl, hm, hp2, hp⟩ := hrel
    have HO := Lib.hid ho; have HB := Lib.hid hb; have HL := Lib.hid hl
    have hs := hb.size
    clear ho hb hl
    go_wp2_with fail
    refine (clamp_any n 100 _ h0 h1 (by omega) (by omega)).mono ?_
    rintro e w' ⟨rfl, rfl⟩
    rw [cnt_cast]
    by_cases hmc : m < cnt n
    · have hp3 : p < 542 := pl_lt (by rw [HL.out]; omega)
      have hbd : ∀ q ∈ pl p, 2 ≤ q ∧ q ≤ 1000 := fun q hq => by have := pl_bd p q hq; omega
      have hdec : noneOf (p : Int) (pl p) = isP p := pl_all ⟨p, by omega⟩ hp2
      have HBD := Lib.hid hbd; have HD := Lib.hid hdec; clear hbd hdec
      go_wp2_with fail
      refine (isPrime_any p a m c (pl p) _ HO.out.reads (by omega) (by omega) HBD.out).mono ?_
      rintro e w' ⟨rfl, rfl⟩
      rw [HD.out]
      rcases Bool.eq_false_or_eq_true (isP p) with hP | hP
      · rw [hP]
        have hsucc := pl_yes hP
        have HS := Lib.hid hsucc; clear hsucc hP
        go_wp2_with (at_builtin; refine wpList_append_I i64T rfl _ _ rfl w.heap.size rfl (HO.out.alloc _) rfl (I64s.one _ _ _ ?_) ?_ ?_ ?_)
        · omega
        · omega
        · (try simp); omega
        intro a2 c2 w2 ho2 hb2 _
        have HO2 := Lib.hid ho2; have HB2 := Lib.hid ((HB.out.alloc hs _).trans hb2); clear ho2 hb2
        go_wp2
        go_roundw
        case rel => exact ⟨a2, m + 1, c2, p + 1, rfl, by go_num, by rw [HS.out]; exact HO2.out, HB2.out, by rw [HS.out, List.length_append, HL.out]; rfl, by omega, by omega, by omega⟩
        case measure => simp [intOf]; omega
      · rw [hP]
        have hsucc := pl_no hP
        have HS := Lib.hid hsucc; clear hsucc hP
        go_wp2
        go_roundw
        case rel => exact ⟨a, m, c, p + 1, rfl, by go_num, by rw [HS.out]; exact HO.out, HB.out, by rw [HS.out]; exact HL.out, by omega, by omega, by omega⟩
        case measure => simp [intOf]; omega
    · obtain rfl : m = cnt n := by omega
      go_wp2
      go_ret
      exact ⟨a, c, p, rfl, HO.out, HB.out, HL.out⟩


set_option maxHeartbeats 1000000 in
theorem rprimes_any (n : Int) (w : World) (h0 : -9223372036854775808 ≤ n) (h1 : n ≤ 9223372036854775807) :
    Calls Try.prog 25 #[.int .i64 n] w (NPost w n) := by
  have hc := cnt_le n
  have hcn : (cnt n : Int) = min (max n 0) 100 := (cnt_cast n).symm
  go_enter Try.func25, Try.ntmps25
  go_wp2
  go_loopw [3, 4] (fun out x wr => NRel w n out x wr) (fun _ x _ => (542 - intOf x).toNat)
  case atStart => exact ⟨_, 0, 0, 2, rfl, rfl, by rw [pl_two]; exact OwnI.made _ _ _ [] _ rfl (Nat.le_refl _) (by simp [maxLen]) (by simp [AllI]), (Below.refl _ _).alloc (Nat.le_refl _) _, by rw [pl_two]; rfl, by omega, by omega, by omega⟩
  case round =>
    obtain ⟨a, m, c, p, rfl, rfl, ho, hb, hl, hm, hp2, hp⟩ := hrel
    have HO := Lib.hid ho; have HB := Lib.hid hb; have HL := Lib.hid hl
    have hs := hb.size
    clear ho hb hl
    have d0 : decide ((p : Int) < 600) = true := decide_eq_true (by omega)
    by_cases hmc : m < cnt n
    · have d1 : decide ((m : Int) < n) = true := decide_eq_true (by omega)
      have d2 : decide ((m : Int) < 100) = true := decide_eq_true (by omega)
      have hp3 : p < 542 := pl_lt (by rw [HL.out]; omega)
      have HC := Lib.hid hcn; clear hcn
      go_wp2_with fail
      refine (rprime_any p _ hp2 (by omega)).mono ?_
      rintro e w' ⟨rfl, rfl⟩
      rcases Bool.eq_false_or_eq_true (isP p) with hP | hP
      · rw [hP]
        have hsucc := pl_yes hP
        have HS := Lib.hid hsucc; clear hsucc hP
        go_wp2_with (at_builtin; refine wpList_append_I i64T rfl _ _ rfl w.heap.size rfl (HO.out.alloc _) rfl (I64s.one _ _ _ ?_) ?_ ?_ ?_)
        · omega
        · omega
        · (try simp); omega
        intro a2 c2 w2 ho2 hb2 _
        have HO2 := Lib.hid ho2; have HB2 := Lib.hid ((HB.out.alloc hs _).trans hb2); clear ho2 hb2
        go_wp2
        go_roundw
        case rel => exact ⟨a2, m + 1, c2, p + 1, rfl, by go_num, by rw [HS.out]; exact HO2.out, HB2.out, by rw [HS.out, List.length_append, HL.out]; rfl, by omega, by omega, by omega⟩
        case measure => simp [intOf]; omega
      · rw [hP]
        have hsucc := pl_no hP
        have HS := Lib.hid hsucc; clear hsucc hP
        go_wp2
        go_roundw
        case rel => exact ⟨a, m, c, p + 1, rfl, by go_num, by rw [HS.out]; exact HO.out, HB.out, by rw [HS.out]; exact HL.out, by omega, by omega, by omega⟩
        case measure => simp [intOf]; omega
    · obtain rfl : m = cnt n := by omega
      by_cases hn : (cnt n : Int) < n
      · have d1 : decide (((cnt n : Nat) : Int) < n) = true := decide_eq_true hn
        have d2 : decide (((cnt n : Nat) : Int) < 100) = false := decide_eq_false (by omega)
        have HC := Lib.hid hcn; clear hcn
        go_wp2
        go_ret
        exact ⟨a, c, p, rfl, HO.out, HB.out, HL.out⟩
      · have d1 : decide (((cnt n : Nat) : Int) < n) = false := decide_eq_false hn
        have HC := Lib.hid hcn; clear hcn
        go_wp2
        go_ret
        exact ⟨a, c, p, rfl, HO.out, HB.out, HL.out⟩

theorem sq_mono {p q : Int} (h : p ≤ q) : sq p ≤ sq q := by
  have h1 := (sq_ok p).1
  have h2 := (sq_ok q).2.1
  have hc : clip p ≤ clip q := by unfold clip; omega
  apply Classical.byContradiction
  intro hn
  have : (sq q + 1) * (sq q + 1) ≤ sq p * sq p := Nat.mul_le_mul (by omega) (by omega)
  omega
theorem cu_mono {p q : Int} (h : p ≤ q) : cu p ≤ cu q := by
  have h1 := (cu_ok p).1
  have h2 := (cu_ok q).2.1
  have hc : clip p ≤ clip q := by unfold clip; omega
  apply Classical.byContradiction
  intro hn
  have : (cu q + 1) * (cu q + 1) * (cu q + 1) ≤ cu p * cu p * cu p := Nat.mul_le_mul (Nat.mul_le_mul (by omega) (by omega)) (by omega)
  omega

end Go.Proofs.Ytlpiacofnciodaa.rs
