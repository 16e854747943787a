/-
  The contract of the document's 'Same' of two lists of bytes.
-/
import Derived.Test.YtejhncdempfmjaaBytes
namespace Go.Proofs.Ytejhncdempfmjaa.bs
open Go.ChangeShapes Go.WideShapes Go.ChangeAt Go.RowKit
set_option linter.unusedVariables false

theorem ret_bool {a b : Bool} (h : a = b) : Ending.returned (.bool a) = .returned (.bool b) := by rw [h]

set_option maxHeartbeats 400000 in
theorem rsame_any (a : Option Addr) (n c : Nat) (x : List Int) (a' : Option Addr) (n' c' : Nat) (y : List Int) (w : World) (hx : Bytes w a n c x) (hy : Bytes w a' n' c' y) :
    Calls Try.prog 16 #[.slice a n c, .slice a' n' c'] w fun e w' => e = .returned (.bool (x == y)) ∧ ∃ m, w' = w.drewN m := by
  have hm := hx.most
  have hm' := hy.most
  have hk := hx.cap
  have hk' := hy.cap
  have lx := Lib.hid hx.len
  have ly := Lib.hid hy.len
  by_cases hl : n = n'
  · subst hl
    have hne : ((n : Int) != (n : Int)) = false := by simp
    by_cases hn : n = 0
    · subst hn
      have e : (x == y) = true := by rw [beq_iff_eq, List.eq_nil_of_length_eq_zero lx.out, List.eq_nil_of_length_eq_zero ly.out]
      have HE := Lib.hid e; clear e
      go_enter Try.func16, Try.ntmps16
      go_wp2
      go_loopw [5] (fun i wr => i = .int .i64 0 ∧ wr = w) (fun _ _ => 0)
      case atStart => exact ⟨rfl, rfl⟩
      case round =>
        obtain ⟨rfl, rfl⟩ := hrel
        go_wp2
        go_ret
        exact ⟨ret_bool HE.out.symm, 0, rfl⟩
    · obtain ⟨b, off, rfl, hc⟩ := hx.at'.resolve_left hn
      obtain ⟨b', off', rfl, hc'⟩ := hy.at'.resolve_left hn
      have HC := Lib.hid hc; clear hc
      have HC' := Lib.hid hc'; clear hc'
      have bx := Lib.hid hx.all
      have by' := Lib.hid hy.all
      clear hx hy
      go_enter Try.func16, Try.ntmps16
      go_wp2
      go_loopw [5] (fun i wr => ∃ k m : Nat, k ≤ n ∧ i = .int .i64 k ∧ wr = w.drewN m ∧ Hid (x.take k = y.take k)) (fun i _ => n - (intOf i).toNat)
      case atStart => exact ⟨0, 0, by omega, rfl, rfl, rfl⟩
      case round =>
        obtain ⟨k, m, hk1, rfl, rfl, ht⟩ := hrel
        by_cases hkn : k < n
        · have c1 := HC.out k hkn
          have c2 := HC'.out k hkn
          obtain ⟨p, hp⟩ : ∃ p, x.getD k 0 = p := ⟨_, rfl⟩
          obtain ⟨q, hq⟩ : ∃ q, y.getD k 0 = q := ⟨_, rfl⟩
          rw [hp] at c1
          rw [hq] at c2
          have HP := Lib.hid hp; have HQ := Lib.hid hq; clear hp hq
          by_cases hd : p = q
          · subst hd
            have hb : (p != p) = false := by simp
            go_wp2_with fail
            go_quiet (fail)
            go_wp2
            go_roundw
            case rel => exact ⟨k + 1, m + nq, by omega, by go_num, rfl, take_eq_succ (by rw [lx.out]; exact hkn) (by rw [ly.out]; exact hkn) ht.out (by rw [HP.out, HQ.out])⟩
            case measure => simp [intOf]; omega
          · have hb : (p != q) = true := by rw [bne_iff_ne]; exact hd
            have HD := Lib.hid hd; clear hd
            go_wp2_with fail
            go_quiet (fail)
            go_wp2
            go_ret
            exact ⟨ret_bool (by rw [eq_comm, beq_eq_false_iff_ne]; exact ne_of_getD (k := k) (by rw [HP.out, HQ.out]; exact HD.out)), _, World.drewN_drewN _ _ _⟩
        · obtain rfl : k = n := by omega
          go_wp2
          go_ret
          have e := ht.out
          rw [List.take_of_length_le (by rw [lx.out]; omega), List.take_of_length_le (by rw [ly.out]; omega)] at e
          exact ⟨ret_bool (by rw [e]; simp), m, rfl⟩
  · have e : (x == y) = false := by rw [beq_eq_false_iff_ne]; intro h; exact hl (by rw [← lx.out, ← ly.out, h])
    have hne : ((n : Int) != (n' : Int)) = true := by rw [bne_iff_ne]; omega
    rw [e]
    clear e
    go_enter Try.func16, Try.ntmps16
    go_wp2
    go_ret
    exact ⟨rfl, 0, rfl⟩
end Go.Proofs.Ytejhncdempfmjaa.bs
