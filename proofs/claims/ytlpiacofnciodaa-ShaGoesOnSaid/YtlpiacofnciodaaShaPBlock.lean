/-
  Layer 3: the contracts of the program's 'Start' and 'Block', and of the document's 'Alike'.
-/
import Derived.Test.YtlpiacofnciodaaShaBehind
import Derived.Test.YtlpiacofnciodaaShaFirst
import Derived.Test.YtlpiacofnciodaaShaRBlock
import Derived.Test.YtlpiacofnciodaaSame
namespace Go.Proofs.Ytlpiacofnciodaa.sh
open Go.ChangeShapes Go.WideShapes Go.ChangeAt Go.RowKit
open bs
open Go.Proofs.Ytlpiacofnciodaa.rs
set_option linter.unusedVariables false

set_option maxHeartbeats 400000 in
theorem alike_any (a : Option Addr) (n c : Nat) (x : List Int) (a' : Option Addr) (n' c' : Nat) (y : List Int) (w : World) (hx : U32s w a n c x) (hy : U32s w a' n' c' y) :
    Calls Try.prog 12 #[.slice a n c, .slice a' n' c'] w fun e w' => e = .returned (.bool (x == y)) ∧ ∃ m, w' = w.drewN m := by
  have hm := hx.most
  have hm' := hy.most
  have hk := hx.cap
  have hk' := hy.cap
  have lx := Lib.hid hx.len
  have ly := Lib.hid hy.len
  by_cases hl : n = n'
  · subst hl
    have hne : ((n : Int) != (n : Int)) = false := by simp
    by_cases hn : n = 0
    · subst hn
      have e : (x == y) = true := by rw [beq_iff_eq, List.eq_nil_of_length_eq_zero lx.out, List.eq_nil_of_length_eq_zero ly.out]
      have HE := Lib.hid e; clear e
      go_enter Try.func12, Try.ntmps12
      go_wp2
      go_loopw [5] (fun i wr => i = .int .i64 0 ∧ wr = w) (fun _ _ => 0)
      case atStart => exact ⟨rfl, rfl⟩
      case round =>
        obtain ⟨rfl, rfl⟩ := hrel
        go_wp2
        go_ret
        exact ⟨bs.ret_bool HE.out.symm, 0, rfl⟩
    · obtain ⟨b, off, rfl, hc⟩ := hx.at'.resolve_left hn
      obtain ⟨b', off', rfl, hc'⟩ := hy.at'.resolve_left hn
      have HC := Lib.hid hc; clear hc
      have HC' := Lib.hid hc'; clear hc'
      have bx := Lib.hid hx.all
      have by' := Lib.hid hy.all
      clear hx hy
      go_enter Try.func12, Try.ntmps12
      go_wp2
      go_loopw [5] (fun i wr => ∃ k m : Nat, k ≤ n ∧ i = .int .i64 k ∧ wr = w.drewN m ∧ Hid (x.take k = y.take k)) (fun i _ => n - (intOf i).toNat)
      case atStart => exact ⟨0, 0, by omega, rfl, rfl, rfl⟩
      case round =>
        obtain ⟨k, m, hk1, rfl, rfl, ht⟩ := hrel
        by_cases hkn : k < n
        · have c1 := HC.out k hkn
          have c2 := HC'.out k hkn
          obtain ⟨p, hp⟩ : ∃ p, x.getD k 0 = p := ⟨_, rfl⟩
          obtain ⟨q, hq⟩ : ∃ q, y.getD k 0 = q := ⟨_, rfl⟩
          rw [hp] at c1
          rw [hq] at c2
          have HP := Lib.hid hp; have HQ := Lib.hid hq; clear hp hq
          by_cases hd : p = q
          · subst hd
            have hb : (p != p) = false := by simp
            go_wp2_with fail
            go_quiet (fail)
            go_wp2
            go_roundw
            case rel => exact ⟨k + 1, m + nq, by omega, by go_num, rfl, take_eq_succ (by rw [lx.out]; exact hkn) (by rw [ly.out]; exact hkn) ht.out (by rw [HP.out, HQ.out])⟩
            case measure => simp [intOf]; omega
          · have hb : (p != q) = true := by rw [bne_iff_ne]; exact hd
            have HD := Lib.hid hd; clear hd
            go_wp2_with fail
            go_quiet (fail)
            go_wp2
            go_ret
            exact ⟨bs.ret_bool (by rw [eq_comm, beq_eq_false_iff_ne]; exact ne_of_getD (k := k) (by rw [HP.out, HQ.out]; exact HD.out)), _, World.drewN_drewN _ _ _⟩
        · obtain rfl : k = n := by omega
          go_wp2
          go_ret
          have e := ht.out
          rw [List.take_of_length_le (by rw [lx.out]; omega), List.take_of_length_le (by rw [ly.out]; omega)] at e
          exact ⟨bs.ret_bool (by rw [e]; simp), m, rfl⟩
  · have e : (x == y) = false := by rw [beq_eq_false_iff_ne]; intro h; exact hl (by rw [← lx.out, ← ly.out, h])
    have hne : ((n : Int) != (n' : Int)) = true := by rw [bne_iff_ne]; omega
    rw [e]
    clear e
    go_enter Try.func12, Try.ntmps12
    go_wp2
    go_ret
    exact ⟨rfl, 0, rfl⟩

theorem Row.u32s {w : World} {g t L} (h : Row w g t L) {n : Nat} (hn : L.length = n) (h2 : n ≤ 1000) : U32s w (some ⟨g, 0, none⟩) n n (L.map I) := by
  subst hn
  refine ⟨by simp, Nat.le_refl _, by omega, I_allW L, by simp, ?_⟩
  rcases Nat.eq_zero_or_pos L.length with h0 | h0
  · exact .inl h0
  · refine .inr ⟨g, 0, rfl, fun i hi => ?_⟩
    rw [Nat.zero_add, h.cellAt i hi, mapI_at L i hi]

/-- A slice of numbers that is read behind the call. -/
def UPost (w : World) (n : Nat) (l : List Int) (e : Ending) (w' : World) : Prop :=
  ∃ (a : Option Addr) (c : Nat), e = .returned (.slice a n c) ∧ U32s w' a n c l ∧ Below w.heap.size w w'

set_option maxRecDepth 100000 in
set_option maxHeartbeats 1000000 in
theorem pstart_any (w : World) : Calls Try.prog 13 #[] w (UPost w 8 (H0.list.map I)) := by
  go_enter Try.func13, Try.ntmps13
  go_wp2_with fail
  refine (first_any _).mono ?_
  rintro e w1 ⟨rfl, hb⟩
  have HB := Lib.hid hb
  have hs := hb.size
  clear hb
  go_wp2_with (refine wpList_store_32 rfl 37 (.tmp 1) _ rfl rfl (L := Hl) rfl (Row.made _ _ (List.replicate 8 0#32)) (n := 8) (by kernel_rfl) Hl_len rfl ?_)
  go_ret
  rw [H0_list]
  exact ⟨_, _, rfl, Row.u32s ((Row.made w1 _ (List.replicate 8 0#32)).setRow Hl) Hl_len (by omega), below_setRow (HB.out.alloc hs _) hs _⟩

set_option maxRecDepth 100000 in
set_option maxHeartbeats 1000000 in
theorem pblock_no (a : Option Addr) (n c : Nat) (a' : Option Addr) (n' c' : Nat) (w : World) (h1 : n ≤ 4611686018427387904) (h2 : n' ≤ 4611686018427387904) (h : n ≠ 8 ∨ n' ≠ 64) :
    Calls Try.prog 11 #[.slice a n c, .slice a' n' c'] w fun e w' => e = .returned (.slice none 0 0) ∧ w = w' := by
  by_cases h8 : n = 8
  · subst h8
    have h64 : ((n' : Int) != 64) = true := by rw [bne_iff_ne]; omega
    have e8 : ((8 : Nat) : Int) = 8 := rfl
    go_enter Try.func11, Try.ntmps11
    go_wp2
    go_ret
    exact ⟨rfl, rfl⟩
  · have h8' : ((n : Int) != 8) = true := by rw [bne_iff_ne]; omega
    go_enter Try.func11, Try.ntmps11
    go_wp2
    go_ret
    exact ⟨rfl, rfl⟩

end Go.Proofs.Ytlpiacofnciodaa.sh
