/-
  The walks of two statements of layer 1: what is read, and that what was written is read.
-/
import Derived.Test.YtjdgebafhcbfoaaVarGets
import Derived.Test.YtjdgebafhcbfoaaVarBytes
import Derived.Test.YtjdgebafhcbfoaaSame
import Derived.Deep.RegionHeld3
namespace Go.Proofs.Ytjdgebafhcbfoaa.vs
open Go.ChangeShapes Go.WideShapes Go.ChangeAt Go.RowKit
open bs
set_option linter.unusedVariables false

theorem Bytes_sub {w : World} {b off n c : Nat} {l : List Int} (h : Bytes w (some ⟨b, off, none⟩) n c l) (q t : Nat) (hq : q < t) (ht : t ≤ n) : Bytes w (some ⟨b, off + q, none⟩) (t - q) (c - q) ((l.drop q).take (t - q)) := by
  have h1 := h.len
  have h2 := h.cap
  refine ⟨by rw [List.length_take, List.length_drop]; omega, by omega, by have := h.most; omega, ?_, by simp, .inr ⟨b, off + q, rfl, fun i hi => ?_⟩⟩
  · intro x hx
    exact h.all x (List.mem_of_mem_drop (List.mem_of_mem_take hx))
  · rcases h.at' with h0 | ⟨b', off', he, hc⟩
    · omega
    · simp only [Option.some.injEq, Addr.mk.injEq, and_true] at he
      obtain ⟨rfl, rfl⟩ := he
      have := hc (q + i) (by omega)
      rw [← Nat.add_assoc] at this
      rw [this, List.getD_eq_getElem?_getD, List.getD_eq_getElem?_getD, List.getElem?_take, if_pos hi, List.getElem?_drop]

/-- What is read, in two cases. -/
theorem getAt_cases (l : List Int) (at' : Int) (hl : AllB l) :
    (∃ q t : Nat, at' = q ∧ q < t ∧ t ≤ l.length ∧ ∃ V, 0 ≤ V ∧ V ≤ 18446744073709551615 ∧ getAt l at' = (V, (t : Int), 0) ∧ (l.drop q).take (t - q) = enc V) ∨
    ∃ E, 0 < E ∧ E ≤ 13 ∧ getAt l at' = (0, 0, E) := by
  by_cases h : at' < 0 ∨ (l.length : Int) < at'
  · exact .inr ⟨13, by omega, by omega, getAt_out l at' h⟩
  · obtain ⟨q, rfl⟩ := Int.eq_ofNat_of_zero_le (show 0 ≤ at' by omega)
    obtain ⟨G, hG⟩ : ∃ G, grp 0 0 (l.drop q) = G := ⟨_, rfl⟩
    obtain ⟨N, t, E⟩ := G
    have hg := getAt_of l q (by omega) hG
    rcases grp_err _ _ _ _ _ _ hG with rfl | ⟨rfl, rfl, he⟩
    · left
      obtain ⟨V, V0, V1, hN, _, ht, h3, h4⟩ := grp_ok (l.drop q) 0 0 N t (by omega) (fun x hx => hl x (List.mem_of_mem_drop hx)) hG
      simp only [Int.pow_zero, Int.mul_one, Int.zero_add, Nat.sub_zero, Nat.zero_add] at hN ht h3 h4 V1
      subst hN
      have h5 := (encF_len 9 N).1
      rw [List.length_drop] at h4
      refine ⟨q, q + t, rfl, by omega, by omega, N, V0, by omega, by simpa using hg, ?_⟩
      rw [show q + t - q = t by omega, ht]; exact h3
    · right
      exact ⟨E, by omega, by omega, by rw [hg, if_neg (by omega)]⟩

theorem enc_zero : enc 0 = [0] := rfl

set_option maxRecDepth 100000 in
set_option maxHeartbeats 1000000 in
theorem reads (a : Option Addr) (n c : Nat) (l : List Int) (at' : Int) (w : World) (h : Bytes w a n c l) (hn : n ≤ 140737488355328) (h0 : -9223372036854775808 ≤ at') (h1 : at' ≤ 9223372036854775807) :
    Calls Try.prog 4 #[.slice a n c, .int .i64 at'] w fun e w' => e = .returned (.bool true) ∧ Below w.heap.size w w' := by
  rcases getAt_cases l at' h.all with ⟨q, t, rfl, hq, ht, V, V0, V1, hg, he⟩ | ⟨E, e0, e1, hg⟩
  · have hlen := h.len
    rw [hlen] at ht
    obtain ⟨b, off, rfl, _⟩ := h.at'.resolve_left (by omega)
    have hsub := Bytes_sub h q t hq ht
    rw [he] at hsub
    have hcap := h.cap
    have hmost := h.most
    have HH := Lib.hid h; have HS := Lib.hid hsub; have HG := Lib.hid hg
    clear h hsub hg hlen he
    go_enter Try.func4, Try.ntmps4
    go_wp2_with fail
    refine (get_any _ _ _ l _ _ HH.out hn h0 h1).mono ?_
    rintro e w1 ⟨rfl, hw⟩
    obtain rfl : w = w1 := hw.symm
    rw [HG.out]
    go_wp2_with fail
    refine (rget_any _ _ _ l _ _ HH.out hn h0 h1).mono ?_
    rintro e w2 ⟨rfl, hw⟩
    obtain rfl : w = w2 := hw.symm
    rw [HG.out]
    go_wp2_with fail
    have s0 : decide (q < t) = true := by simpa using hq
    have s1 : decide (t ≤ n) = true := by simpa using ht
    have s2 : (q : Int) ≤ t := by omega
    have s3 : (t : Int) ≤ c := by omega
    go_region_held3 (fun W => Below w.heap.size w W) (first | assumption | exact Below.drew (Below.refl _ _) | exact below_drewN (by assumption) _) (first
      | (go_at_call 9; refine (bytes_any V _ V0 V1).mono ?_; rintro e w' ⟨a2, n2, c2, rfl, ho, hb⟩; have hS : Below w.heap.size w w' := (Below.drew (Below.refl _ _)).trans hb; have HO := Lib.hid ho; clear ho hb)
      | (go_at_call 10; refine (rsame_any _ _ _ (enc V) _ _ _ (enc V) _ (OwnB.bytes (Hid.out HO)) (HS.out.below (by assumption))).mono ?_; rintro e w' ⟨rfl, m, rfl⟩))
    go_wp2
    go_ret
    exact ⟨rfl, by first | assumption | exact below_drewN (by assumption) _⟩
  · have hE : (E != 0) = true := by rw [bne_iff_ne]; omega
    have HH := Lib.hid h; have HG := Lib.hid hg
    clear h hg
    go_enter Try.func4, Try.ntmps4
    go_wp2_with fail
    refine (get_any _ _ _ l _ _ HH.out hn h0 h1).mono ?_
    rintro e w1 ⟨rfl, hw⟩
    obtain rfl : w = w1 := hw.symm
    rw [HG.out]
    go_wp2_with fail
    refine (rget_any _ _ _ l _ _ HH.out hn h0 h1).mono ?_
    rintro e w2 ⟨rfl, hw⟩
    obtain rfl : w = w2 := hw.symm
    rw [HG.out]
    go_wp2_with fail
    refine (bytes_any 0 _ (by omega) (by omega)).mono ?_
    rintro e w' ⟨a2, n2, c2, rfl, ho, hb⟩
    obtain rfl : n2 = 1 := by have := ho.len; rw [enc_zero] at this; simpa using this.symm
    have HB := Lib.hid hb; clear ho hb
    go_wp2
    go_ret
    exact ⟨rfl, HB.out⟩

set_option maxRecDepth 100000 in
set_option maxHeartbeats 1000000 in
theorem back (a : Option Addr) (n c : Nat) (x : List Int) (v : Int) (a' : Option Addr) (n' c' : Nat) (y : List Int) (w : World) (h : Bytes w a n c x) (h' : Bytes w a' n' c' y) (hn : n ≤ 1048576) (hn' : n' ≤ 1048576) (v0 : 0 ≤ v) (v1 : v ≤ 18446744073709551615) :
    Calls Try.prog 3 #[.slice a n c, .int .u64 v, .slice a' n' c'] w fun e w' => e = .returned (.bool true) ∧ Below w.heap.size w w' := by
  have HX := Lib.hid h; have HY := Lib.hid h'; clear h h'
  go_enter Try.func3, Try.ntmps3
  go_wp2_with fail
  refine (bytes_any v _ v0 v1).mono ?_
  rintro e w1 ⟨a1, n1, c1, rfl, ho1, hb1⟩
  have HO1 := Lib.hid ho1; have HB1 := Lib.hid hb1; clear ho1 hb1
  go_wp2_with fail
  refine (rbytes_any v _ v0 v1).mono ?_
  rintro e w2 ⟨a2, n2, c2, rfl, ho2, hb2⟩
  have HO2 := Lib.hid ho2; have HB2 := Lib.hid hb2; clear ho2 hb2
  go_wp2_with fail
  refine (rsame_any _ _ _ (enc v) _ _ _ (enc v) _ (HO1.out.bytes.below HB2.out) HO2.out.bytes).mono ?_
  rintro e w3 ⟨rfl, m, rfl⟩
  have s1 := HB1.out.size
  have s2 := HB2.out.size
  have l1 : n1 ≤ 10 := by have := HO1.out.len; have := (encF_len 9 v).2; unfold enc at *; omega
  have hb0 : Below w.heap.size w (w2.drewN m) := below_drewN (HB1.out.trans (HB2.out.mono s1)) m
  have HB3 := Lib.hid hb0; clear hb0
  have hx3 := Lib.hid (HX.out.below HB3.out)
  have hy3 := Lib.hid (HY.out.below HB3.out)
  have ho3 := Lib.hid ((HO1.out.bytes.below HB2.out).drewN m)
  have l2 := Lib.hid HO1.out.len
  clear HX HY HO1 HO2 HB1 HB2
  generalize hW : w2.drewN m = W at HB3 hx3 hy3 ho3 ⊢
  clear hW s1 s2
  have s3 := HB3.out.size
  go_wp2_with (at_builtin; refine wpList_append_b byteT rfl _ _ rfl W.heap.size rfl (OwnB.made _ _ _ [] _ rfl ?_ ?_ ?_) rfl (hx3.out.below ((Below.refl _ _).alloc (Nat.le_refl _) _)) ?_ ?_ ?_)
  · simp
  · simp
  · simp [AllB]
  · omega
  · simp
  intro a4 c4 w4 ho4 hb4 _
  have hb4' : Below W.heap.size W w4 := ((Below.refl _ _).alloc (Nat.le_refl _) _).trans hb4
  have HO4 := Lib.hid ho4; have HB4 := Lib.hid hb4'; clear ho4 hb4 hb4'
  have s4 := HB4.out.size
  go_wp2_with (at_builtin; refine wpList_append_b byteT rfl _ _ rfl W.heap.size rfl HO4.out rfl (ho3.out.below HB4.out) ?_ ?_ ?_)
  · omega
  · omega
  intro a5 c5 w5 ho5 hb5 _
  have HO5 := Lib.hid ho5; have HB5 := Lib.hid (HB4.out.trans hb5); clear ho5 hb5
  have s5 := HB5.out.size
  go_wp2_with (at_builtin; refine wpList_append_b byteT rfl _ _ rfl W.heap.size rfl HO5.out rfl (hy3.out.below HB5.out) ?_ ?_ ?_)
  · omega
  · omega
  intro a6 c6 w6 ho6 hb6 _
  have HO6 := Lib.hid ho6; have HB6 := Lib.hid (HB3.out.trans ((HB5.out.trans hb6).mono s3)); clear ho6 hb6
  have hg : getAt (x ++ (enc v ++ y)) n = (v, (n : Int) + n1, 0) := by
    have hl := hx3.out.len
    rw [getAt_of _ n (by simp; omega) (show grp 0 0 ((x ++ (enc v ++ y)).drop n) = (v, (enc v).length, 0) by rw [← hl, List.drop_left]; exact grp_enc v y v0 v1), if_pos rfl, l2.out]
  have HG := Lib.hid hg; clear hg
  go_wp2_with fail
  refine (get_any _ _ _ (x ++ (enc v ++ y)) _ _ HO6.out.bytes (by omega) (by omega) (by omega)).mono ?_
  rintro e w7 ⟨rfl, hw⟩
  obtain rfl : w6 = w7 := hw.symm
  rw [HG.out]
  go_wp2
  go_ret
  exact ⟨rfl, HB6.out⟩

end Go.Proofs.Ytjdgebafhcbfoaa.vs
