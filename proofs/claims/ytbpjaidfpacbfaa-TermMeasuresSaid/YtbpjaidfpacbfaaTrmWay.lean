/-
  Layer 6: are two paths the same; does one begin with the other?
-/
import Derived.Test.YtbpjaidfpacbfaaTrmWalk
import Derived.BigQuiet
namespace Go.Proofs.Ytbpjaidfpacbfaa.te
open Go.ChangeShapes Go.WideShapes Go.ChangeAt Go.RowKit
open bs tr
set_option linter.unusedVariables false

def YP (P : Prop) (w : World) (e : Ending) (w' : World) : Prop := ∃ r : Bool, e = .returned (.bool r) ∧ (r = true ↔ P) ∧ Below w.heap.size w w'

set_option maxRecDepth 100000 in
set_option maxHeartbeats 2000000 in
theorem way_any (a : Option Addr) (n c : Nat) (p : List Int) (a' : Option Addr) (n' c' : Nat) (q : List Int) (w : World) (hp : I64s w a n c p) (hq : I64s w a' n' c' q) :
    Calls Try.prog 21 #[.slice a n c, .slice a' n' c'] w (YP (p = q) w) := by
  have hcap := hp.cap; have hmost := hp.most; have hcap' := hq.cap; have hmost' := hq.most
  have HP := Lib.hid hp; have HQ := Lib.hid hq
  have HLP := Lib.hid hp.len; have HLQ := Lib.hid hq.len
  clear hp hq
  go_enter Try.func21, Try.ntmps21
  by_cases hn : n = n'
  case neg =>
    have hm' : ¬ (n : Int) = (n' : Int) := by omega
    go_wp2
    go_ret
    refine ⟨false, rfl, ⟨fun h => (by cases h), fun h => ?_⟩, Below.refl _ _⟩
    subst h
    exact absurd (HLP.out.symm.trans HLQ.out) hn
  subst hn
  go_wp2_with fail
  go_loopw [5] (fun i wr => ∃ (k d : Nat), k ≤ n ∧ i = .int .i64 k ∧ wr = w.drewN d ∧ Hid (∀ j, j < k → p[j]? = q[j]?)) (fun i _ => n - (intOf i).toNat)
  case atStart => exact ⟨0, 0, by omega, rfl, rfl, Lib.hid fun j hj => by omega⟩
  case round =>
    obtain ⟨k, d, hk2, rfl, rfl, HE⟩ := hrel
    by_cases hlt : k < n
    · rcases HP.out.at' with h0 | ⟨b, off, rfl, hc⟩
      · omega
      rcases HQ.out.at' with h0 | ⟨b', off', rfl, hc'⟩
      · omega
      have h1 := hc k hlt; have h2 := hc' k hlt
      obtain ⟨y, hy⟩ : ∃ y, p.getD k 0 = y := ⟨_, rfl⟩
      obtain ⟨z, hz⟩ : ∃ z, q.getD k 0 = z := ⟨_, rfl⟩
      rw [hy] at h1; rw [hz] at h2
      have HY := Lib.hid hy; have HZ := Lib.hid hz
      have hpk : p[k]? = some (p.getD k 0) := by rw [List.getD_eq_getElem?_getD, List.getElem?_eq_getElem (by rw [HLP.out]; exact hlt)]; rfl
      have hqk : q[k]? = some (q.getD k 0) := by rw [List.getD_eq_getElem?_getD, List.getElem?_eq_getElem (by rw [HLQ.out]; exact hlt)]; rfl
      have HPK := Lib.hid hpk; have HQK := Lib.hid hqk
      clear hc hc' hy hz hpk hqk
      by_cases hyz : y = z
      · subst hyz
        go_wp2_with fail
        go_quiet (fail)
        go_wp2
        go_roundw
        case rel =>
          refine ⟨k + 1, _, by omega, by go_num, rfl, Lib.hid fun j hj => ?_⟩
          rcases Nat.lt_or_ge j k with h | h
          · exact HE.out j h
          · obtain rfl : j = k := by omega
            rw [HPK.out, HQK.out, HY.out, HZ.out]
        case measure => simp [intOf]; omega
      · have d1 : (y != z) = true := by rw [bne_iff_ne]; exact hyz
        have d2 : (y == z) = false := by rw [beq_eq_false_iff_ne]; exact hyz
        go_wp2_with fail
        go_quiet (fail)
        go_wp2
        go_ret
        refine ⟨false, rfl, ⟨fun h => (by cases h), fun h => ?_⟩, below_drewN (below_drewN (Below.refl _ _) _) _⟩
        subst h
        exact absurd (HY.out.symm.trans HZ.out) hyz
    · have hkn : k = n := by omega
      subst hkn
      go_wp2
      go_ret
      exact ⟨true, rfl, ⟨fun _ => same_lists HLP.out HLQ.out HE.out, fun _ => rfl⟩, below_drewN (Below.refl _ _) _⟩

theorem head_i64s {w : World} {a : Option Addr} {n c : Nat} {l : List Int} (h : I64s w a n c l) (i : Nat) (hi : i ≤ n) : I64s w a i c (l.take i) := by
  refine ⟨by rw [List.length_take, h.len]; omega, by have := h.cap; omega, h.most, fun x hx => h.all x (List.mem_of_mem_take hx), h.nil, ?_⟩
  rcases h.at' with h0 | ⟨b, off, ha, hc⟩
  · exact .inl (by omega)
  · refine .inr ⟨b, off, ha, fun j hj => ?_⟩
    rw [hc j (by omega), List.getD_eq_getElem?_getD, List.getD_eq_getElem?_getD, List.getElem?_take, if_pos hj]

set_option maxRecDepth 100000 in
set_option maxHeartbeats 2000000 in
theorem below_any (a : Option Addr) (n c : Nat) (p : List Int) (a' : Option Addr) (n' c' : Nat) (q : List Int) (w : World) (hp : I64s w a n c p) (hq : I64s w a' n' c' q) :
    Calls Try.prog 27 #[.slice a n c, .slice a' n' c'] w (YP (q <+: p) w) := by
  have hcap := hp.cap; have hmost := hp.most; have hcap' := hq.cap; have hmost' := hq.most
  have HP := Lib.hid hp; have HQ := Lib.hid hq
  have HLP := Lib.hid hp.len; have HLQ := Lib.hid hq.len
  clear hp hq
  by_cases hn : n < n'
  · go_enter Try.func27, Try.ntmps27
    go_wp2
    go_ret
    refine ⟨false, rfl, ⟨fun h => (by cases h), fun h => ?_⟩, Below.refl _ _⟩
    have := h.length_le
    have := HLP.out; have := HLQ.out
    omega
  · have hs := fun W => slice_head_i a n c n' (by omega) hcap hmost W
    go_enter Try.func27, Try.ntmps27
    go_wp2_with fail
    refine (way_any a n' c (p.take n') a' n' c' q _ (head_i64s HP.out n' (by omega)) HQ.out).mono ?_
    rintro e w2 ⟨r, rfl, hr, hb⟩
    have HR := Lib.hid hr; have HB := Lib.hid hb
    clear hr hb hs
    go_wp2
    go_ret
    refine ⟨r, rfl, ?_, HB.out⟩
    rw [HR.out]
    constructor
    · intro h; exact ⟨p.drop n', by rw [← h, List.take_append_drop]⟩
    · rintro ⟨s, rfl⟩
      rw [List.take_left' HLQ.out]
end Go.Proofs.Ytbpjaidfpacbfaa.te
