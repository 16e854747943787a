/-
  Layer 47: the document's Entries; both Verify.
-/
import Derived.Test.YtejhncdempfmjaaChainRds
namespace Go.Proofs.Ytejhncdempfmjaa.ch
open Go.ChangeShapes Go.WideShapes Go.ChangeAt Go.RowKit
open bs en
open Go.Proofs.Ytejhncdempfmjaa.sh (tagB ptag_any rtag_any)
set_option linter.unusedVariables false

theorem ret_v {u v : Value} (h : u = v) : Ending.returned u = .returned v := by rw [h]
/-- The empty lists of an error. -/
theorem none_own (w W : World) (hb : w.heap.size ≤ W.heap.size) : OwnS 2 eCells ((W.alloc (.cells #[] 35)).alloc (.cells #[] 5)) w.heap.size 35 (some ⟨W.heap.size, 0, none⟩) 0 0 ([] : List Fw) ∧
    OwnB ((W.alloc (.cells #[] 35)).alloc (.cells #[] 5)) w.heap.size 5 (some ⟨W.heap.size + 1, 0, none⟩) 0 0 [] := by
  refine ⟨OwnS.alloc (made0 W w.heap.size _ hb) _, ?_⟩
  have h := OwnB.made (W.alloc (.cells #[] 35)) w.heap.size 5 [] #[] rfl (by simp; omega) (by simp [maxLen]) (by simp [AllB])
  rw [World.size_alloc] at h
  exact h

set_option maxRecDepth 100000 in
set_option maxHeartbeats 2000000 in
theorem rentries_any (a0 : Option Addr) (n0 c0 : Nat) (key : List Int) (a : Option Addr) (n c : Nat) (l : List Int) (w : World) (h0 : Bytes w a0 n0 c0 key) (h : Bytes w a n c l) (hk : n0 ≤ 100000) (hn : n ≤ 100000) :
    Calls Try.prog 24 #[.slice a0 n0 c0, .slice a n c] w (EnPost key l w) := by
  have hcap := h.cap; have hmost := h.most; have hlen := h.len
  have H0 := Lib.hid h0
  have H := Lib.hid h
  have HLE := Lib.hid hlen
  have hHA := h.all
  have HA := Lib.hid hHA
  clear h0 h hlen hHA
  go_enter Try.func24, Try.ntmps24
  go_wp2_with fail
  refine (rframes_any a n c l _ H.out hn).mono ?_
  rintro e w1 ⟨hb1, j, L, al, cl, at1, ct, E, rfl, hends, hL, hT, hO, hD⟩
  have hj : j ≤ 100000 := by
    have h1 := at_ge (l := l) j; have h2 := at_le HA.out j hends.1; rw [HLE.out] at h2; omega
  obtain rfl : L.length = j := hL.num
  have HB1 := Lib.hid hb1; have HEN := Lib.hid hends; have HL := Lib.hid hL; have HT := Lib.hid hT; have HO := Lib.hid hO; have HD := Lib.hid hD
  clear hb1 hends hL hT hO hD
  go_wp2_with fail
  refine (right_any a0 n0 c0 key al cl at1 ct L.length L (fm l) _ (H0.out.below HB1.out) (own_ent HL.out HO.out) (own_tag HT.out HO.out) HD.out hk hj).mono ?_
  rintro e w2 ⟨hb2, r, hr, rfl, hg, hng⟩
  have HG := Lib.hid hg; have HNG := Lib.hid hng
  have HB2 := Lib.hid (HB1.out.trans (hb2.mono HB1.out.size))
  have HL2 := Lib.hid (HL.out.below hb2); have HT2 := Lib.hid (HT.out.below hb2)
  have HO2 : Hid (∀ x ∈ L, FwOwn w2 w.heap.size x) := Lib.hid (fun x hx => (HO.out x hx).below hb2)
  clear hb2 hg hng
  by_cases hlt : r < L.length
  · have d : decide (r < L.length) = true := decide_eq_true hlt
    have hE : EntE key l r 29 := by
      obtain ⟨h1, h2⟩ := HEN.out.1 r hlt
      exact ⟨fun i hi => HEN.out.1 i (by omega), HG.out, .inr (.inr ⟨h1, h2, HNG.out hlt, rfl⟩)⟩
    have HE := Lib.hid hE
    obtain ⟨hn1, hn2⟩ := none_own w w2 HB2.out.size
    have N1 := Lib.hid hn1; have N2 := Lib.hid hn2
    clear hE hlt hn1 hn2
    go_wp2
    go_ret3
    exact ⟨(HB2.out.alloc HB2.out.size _).alloc (by simp; have := HB2.out.size; omega) _, r, 29, [], _, 0, _, 0, 0, [], HE.out, rfl, N1.out, by simp, fun i x h => by simp at h, N2.out, fun h => by omega, fun _ => ⟨rfl, rfl⟩⟩
  · have d : decide (r < L.length) = false := decide_eq_false hlt
    obtain rfl : r = L.length := by omega
    clear hlt hr
    by_cases hE : E = 0
    · subst hE
      have hEE : EntE key l L.length 0 := by
        rcases HEN.out.2 with ⟨h1, h2⟩ | ⟨h1, h2, h3⟩
        · exact ⟨HEN.out.1, HG.out, .inl ⟨h1, rfl⟩⟩
        · exact absurd rfl h3
      have HE := Lib.hid hEE
      clear hEE
      by_cases hz : L.length = 0
      · have hnil : L = [] := List.eq_nil_of_length_eq_zero hz
        subst hnil
        go_wp2_with fail
        refine (rfirst_any _).mono ?_
        rintro e w3 ⟨a3, c3, rfl, ho3, hb3⟩
        have HO3 := Lib.hid (ho3.mono HB2.out.size)
        have HL3 := Lib.hid (HL2.out.below hb3)
        have HB3 := Lib.hid (HB2.out.trans (hb3.mono HB2.out.size))
        clear ho3 hb3
        go_wp2
        go_ret3
        exact ⟨HB3.out, 0, 0, [], al, cl, a3, 32, c3, _, HE.out, rfl, HL3.out, by simp, fun i x h => by simp at h, HO3.out, fun _ => ⟨rfl, rfl⟩, fun h => absurd rfl h⟩
      · have dz : ((L.length : Int) == 0) = false := by rw [beq_eq_false_iff_ne]; omega
        obtain ⟨x, hx⟩ : ∃ x, L[L.length - 1]? = some x := ⟨L[L.length - 1]'(by omega), List.getElem?_eq_getElem _⟩
        obtain ⟨b', off', rfl, hbl', hcell'⟩ := (own_tag HT2.out HO2.out).at'.resolve_left hz
        have hc' := hcell' _ x hx
        rw [Nat.mul_one] at hc'
        have hxm : x ∈ L := List.mem_of_getElem? hx
        have HX := Lib.hid (HO2.out x hxm)
        have hTl := HD.out _ x hx
        have e2 := hc'.c0
        have hah : x.t = ahd (fm l) L.length := by
          unfold ahd; rw [if_neg hz]; exact hTl.t
        have HAH := Lib.hid hah
        have htc := HT2.out.recs (by decide) (fun x => rfl) TagF (fun b o x hx hc => ⟨hc 0 _ rfl, (HO2.out x hx).rd⟩)
        have z1 : IntKind.i64.wrap ((L.length : Int) - 1) = (L.length : Int) - 1 := IntWalk.i64_in _ (by omega)
        have z2 : 1 ≤ (L.length : Int) := by omega
        have z2' : (0 : Int) ≤ (L.length : Int) - 1 := by omega
        have z3 : (L.length : Int) - 1 < (L.length : Int) := by omega
        have z4 : ((L.length : Int) - 1).toNat = L.length - 1 := by omega
        have hct := htc.cap
        clear hc' hcell' hx hTl hah htc hxm
        go_wp2_with fail
        go_quiet (fail)
        go_wp2
        go_ret3
        refine ⟨below_drewN HB2.out _, L.length, 0, L, al, cl, x.a, x.n, x.c, x.t, HE.out, rfl, HL2.out.below (below_drewN (Below.refl _ _) _), fun x hx => (HO2.out x hx).below (below_drewN (Below.refl _ _) _), HD.out, HX.out.tag.drewN _, fun _ => ⟨rfl, HAH.out⟩, fun h => absurd rfl h⟩
    · have dE : (E != 0) = true := by rw [bne_iff_ne]; exact hE
      have hEE : EntE key l L.length E := by
        rcases HEN.out.2 with ⟨h1, h2⟩ | ⟨h1, h2, h3⟩
        · exact absurd h2 hE
        · exact ⟨HEN.out.1, HG.out, .inr (.inl ⟨h1, h2, h3⟩)⟩
      have HE := Lib.hid hEE; have HNE := Lib.hid hE
      obtain ⟨hn1, hn2⟩ := none_own w w2 HB2.out.size
      have N1 := Lib.hid hn1; have N2 := Lib.hid hn2
      clear hEE hE hn1 hn2
      go_wp2
      go_ret3
      exact ⟨(HB2.out.alloc HB2.out.size _).alloc (by simp; have := HB2.out.size; omega) _, L.length, E, [], _, 0, _, 0, 0, [], HE.out, rfl, N1.out, by simp, fun i x h => by simp at h, N2.out, fun h => absurd h HNE.out, fun _ => ⟨rfl, rfl⟩⟩

/-- Is it right, with that count and that tag? -/
def vf (key l : List Int) (m : Nat) (E cnt : Int) (tag : List Int) : Bool := decide (E = 0 ∧ (m : Int) = cnt ∧ ahd (fm l) m = tag)
def VPost (key l : List Int) (cnt : Int) (tag : List Int) (w : World) (e : Ending) (w' : World) : Prop :=
  Below w.heap.size w w' ∧ ∃ (m : Nat) (E : Int), EntE key l m E ∧ e = .returned (.bool (vf key l m E cnt tag))

set_option maxRecDepth 100000 in
set_option maxHeartbeats 2000000 in
theorem verify_any (a0 : Option Addr) (n0 c0 : Nat) (key : List Int) (a : Option Addr) (n c : Nat) (l : List Int) (cnt : Int) (a' : Option Addr) (n' c' : Nat) (tag : List Int) (w : World) (h0 : Bytes w a0 n0 c0 key) (h : Bytes w a n c l) (h' : Bytes w a' n' c' tag) (hk : n0 ≤ 100000) (hn : n ≤ 100000) :
    Calls Try.prog 23 #[.slice a0 n0 c0, .slice a n c, .int .i64 cnt, .slice a' n' c'] w (VPost key l cnt tag w) := by
  have H0 := Lib.hid h0; have H := Lib.hid h; have H' := Lib.hid h'
  clear h0 h h'
  go_enter Try.func23, Try.ntmps23
  go_wp2_with fail
  refine (entries_any a0 n0 c0 key a n c l _ H0.out H.out hk hn).mono ?_
  rintro e w1 ⟨hb1, m, E, L, al, cl, ax, nx, cx, t, hE, rfl, hL, hO, hD, hT, hz, hnz⟩
  have HB1 := Lib.hid hb1; have HE := Lib.hid hE; have HT := Lib.hid hT; have HZ := Lib.hid hz
  clear hb1 hE hL hO hD hT hz hnz
  by_cases hE : E = 0
  · subst hE
    obtain ⟨hm, ht⟩ := HZ.out rfl
    subst hm ht
    by_cases hc : (L.length : Int) = cnt
    · subst hc
      go_wp2_with fail
      refine (psame_any _ _ _ _ _ _ _ tag _ HT.out.bytes (H'.out.below HB1.out)).mono ?_
      rintro e w2 ⟨rfl, m2, rfl⟩
      have hv : (ahd (fm l) L.length == tag) = vf key l L.length 0 (L.length : Int) tag := by
        unfold vf
        rw [Bool.eq_iff_iff, beq_iff_eq, decide_eq_true_iff]
        simp
      have HV := Lib.hid hv
      clear hv
      go_wp2
      go_ret
      exact ⟨below_drewN HB1.out _, L.length, 0, HE.out, by rw [← HV.out]; rfl⟩
    · have d : ((L.length : Int) == cnt) = false := by rw [beq_eq_false_iff_ne]; exact hc
      have hv : vf key l L.length 0 cnt tag = false := by
        unfold vf
        rw [decide_eq_false_iff_not]
        exact fun h => hc h.2.1
      have HV := Lib.hid hv
      clear hv hc
      go_wp2
      go_ret
      exact ⟨HB1.out, L.length, 0, HE.out, by rw [HV.out]; rfl⟩
  · have d : (E == 0) = false := by rw [beq_eq_false_iff_ne]; exact hE
    have hv : vf key l m E cnt tag = false := by
      unfold vf
      rw [decide_eq_false_iff_not]
      exact fun h => hE h.1
    have HV := Lib.hid hv
    clear hv hE
    go_wp2
    go_ret
    exact ⟨HB1.out, m, E, HE.out, by rw [HV.out]; rfl⟩

set_option maxRecDepth 100000 in
set_option maxHeartbeats 2000000 in
theorem rverify_any (a0 : Option Addr) (n0 c0 : Nat) (key : List Int) (a : Option Addr) (n c : Nat) (l : List Int) (cnt : Int) (a' : Option Addr) (n' c' : Nat) (tag : List Int) (w : World) (h0 : Bytes w a0 n0 c0 key) (h : Bytes w a n c l) (h' : Bytes w a' n' c' tag) (hk : n0 ≤ 100000) (hn : n ≤ 100000) :
    Calls Try.prog 25 #[.slice a0 n0 c0, .slice a n c, .int .i64 cnt, .slice a' n' c'] w (VPost key l cnt tag w) := by
  have H0 := Lib.hid h0; have H := Lib.hid h; have H' := Lib.hid h'
  clear h0 h h'
  go_enter Try.func25, Try.ntmps25
  go_wp2_with fail
  refine (rentries_any a0 n0 c0 key a n c l _ H0.out H.out hk hn).mono ?_
  rintro e w1 ⟨hb1, m, E, L, al, cl, ax, nx, cx, t, hE, rfl, hL, hO, hD, hT, hz, hnz⟩
  have HB1 := Lib.hid hb1; have HE := Lib.hid hE; have HT := Lib.hid hT; have HZ := Lib.hid hz
  clear hb1 hE hL hO hD hT hz hnz
  by_cases hE : E = 0
  · subst hE
    obtain ⟨hm, ht⟩ := HZ.out rfl
    subst hm ht
    by_cases hc : (L.length : Int) = cnt
    · subst hc
      go_wp2_with fail
      refine (rsame_any _ _ _ _ _ _ _ tag _ HT.out.bytes (H'.out.below HB1.out)).mono ?_
      rintro e w2 ⟨rfl, m2, rfl⟩
      have hv : (ahd (fm l) L.length == tag) = vf key l L.length 0 (L.length : Int) tag := by
        unfold vf
        rw [Bool.eq_iff_iff, beq_iff_eq, decide_eq_true_iff]
        simp
      have HV := Lib.hid hv
      clear hv
      go_wp2
      go_ret
      exact ⟨below_drewN HB1.out _, L.length, 0, HE.out, by rw [← HV.out]; rfl⟩
    · have d : ((L.length : Int) == cnt) = false := by rw [beq_eq_false_iff_ne]; exact hc
      have hv : vf key l L.length 0 cnt tag = false := by
        unfold vf
        rw [decide_eq_false_iff_not]
        exact fun h => hc h.2.1
      have HV := Lib.hid hv
      clear hv hc
      go_wp2
      go_ret
      exact ⟨HB1.out, L.length, 0, HE.out, by rw [HV.out]; rfl⟩
  · have d : (E == 0) = false := by rw [beq_eq_false_iff_ne]; exact hE
    have hv : vf key l m E cnt tag = false := by
      unfold vf
      rw [decide_eq_false_iff_not]
      exact fun h => hE h.1
    have HV := Lib.hid hv
    clear hv hE
    go_wp2
    go_ret
    exact ⟨HB1.out, m, E, HE.out, by rw [HV.out]; rfl⟩

end Go.Proofs.Ytejhncdempfmjaa.ch
