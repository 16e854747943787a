import Derived.Test.YthmdllhhmhbhbaaPkD15
import Derived.Test.YthmdllhhmhbhbaaPkD5
import Derived.Test.YthmdllhhmhbhbaaPkD4
import Derived.Test.YthmdllhhmhbhbaaPkD6
import Derived.Test.YthmdllhhmhbhbaaPkD9
section
namespace Go.Proofs.Ythmdllhhmhbhbaa.am
open Go.ChangeShapes Go.WideShapes Go.ChangeAt Go.RowKit
open vt
set_option linter.unusedVariables false
set_option linter.unusedSimpArgs false
theorem nm_all {P : Int → Prop} (h : ∀ n, P n) (t : VT) : Nm P t := by
  induction t using Tr.ind with
  | h x l ih => exact (Tr.all_mk _ _ _).2 ⟨⟨fun _ => h _, fun _ _ => h _⟩, fun y hy => ih y hy⟩
theorem atI_at {L : List Int} (hn : L.Nodup) {k : Nat} {z : Int} (h : L[k]? = some z) : atI z L = k := by
  have h0 : 0 ≤ atI z L := by
    have := (atI_neg z L)
    have hm : z ∈ L := List.mem_of_getElem? h
    have hn : ¬ atI z L < 0 := fun g => this.1 g hm
    omega
  have h1 := atI_val h0
  have hl := atI_lt z L
  have := (List.getElem?_inj (i := (atI z L).toNat) (by omega) hn).1 (h1.trans h.symm)
  omega
section
variable {nums : List Int} (ho : isOrd nums = true)
include ho
theorem ord_in {n : Nat} (h : n < nums.length) : 0 ≤ atI (n : Int) nums ∧ atI (n : Int) nums < nums.length ∧ nums[(atI (n : Int) nums).toNat]? = some (n : Int) := by
  have hm := (isOrd_all nums).1 ho n h
  have hl := atI_lt (n : Int) nums
  have h0 : 0 ≤ atI (n : Int) nums := by
    have hn : ¬ atI (n : Int) nums < 0 := fun g => (atI_neg (n : Int) nums).1 g hm
    omega
  exact ⟨h0, by omega, atI_val h0⟩
theorem plc_in_ord {n : Nat} (h : n < nums.length) : plc (invN nums nums.length) n = atI (n : Int) nums := by
  unfold plc
  rw [if_neg (by omega), Int.toNat_natCast, invN_at nums h]
  dsimp only
  rw [if_neg (by have := (ord_in ho h).1; omega)]
omit ho in
theorem plc_out_ord {n : Int} (h : ¬ (0 ≤ n ∧ n < nums.length)) : plc (invN nums nums.length) n = n := by
  unfold plc
  by_cases h0 : n < 0
  · rw [if_pos h0]
  · rw [if_neg h0, List.getElem?_eq_none (by rw [invN_len]; omega)]
theorem ord_inv : isOrd (invN nums nums.length) = true := by
  rw [isOrd_all, invN_len]
  intro k hk
  obtain ⟨h1, h2⟩ := (isOrd_iff nums).1 ho
  obtain ⟨z, hz⟩ : ∃ z, nums[k]? = some z := ⟨_, List.getElem?_eq_getElem hk⟩
  obtain ⟨z0, z1⟩ := h1 z (List.mem_of_getElem? hz)
  have e := atI_at h2 hz
  refine List.mem_of_getElem? (i := z.toNat) ?_
  rw [invN_at nums (by omega), show ((z.toNat : Nat) : Int) = z by omega, e]
theorem plc_back (n : Int) : plc (invN (invN nums nums.length) (invN nums nums.length).length) (plc (invN nums nums.length) n) = n := by
  by_cases h : 0 ≤ n ∧ n < nums.length
  · obtain ⟨k, rfl⟩ : ∃ k : Nat, n = k := ⟨n.toNat, by omega⟩
    obtain ⟨a0, a1, a2⟩ := ord_in ho (n := k) (by omega)
    rw [plc_in_ord ho (by omega)]
    obtain ⟨j, hj⟩ : ∃ j : Nat, atI (k : Int) nums = j := ⟨_, (Int.toNat_of_nonneg a0).symm⟩
    rw [hj, plc_in_ord (ord_inv ho) (by rw [invN_len]; omega)]
    refine atI_at ((isOrd_iff _).1 (ord_inv ho)).2 ?_
    rw [invN_at nums (by omega), hj]
  · rw [plc_out_ord h, plc_out_ord (by rw [invN_len]; exact h)]
omit ho in
theorem renum_back {a b : List Int} (h : ∀ n, plc b (plc a n) = n) (hp : ∀ n : Int, 0 ≤ n → 0 ≤ plc a n) (t : VT) : renum b (renum a t) = t := by
  induction t using Tr.ind with
  | h x l ih =>
  rw [renum_mk, renum_mk, List.map_map, show l.map (renum b ∘ renum a) = l from (List.map_congr_left (fun y hy => ih y hy)).trans (List.map_id l)]
  congr 1
  have : nwN b { x with n := nwN a x } = x.n := by
    by_cases c : nmK x.k = true
    · rw [nwN_nm c, nwN_nm (x := { x with n := plc a x.n }) c]; exact h _
    by_cases h13 : x.k = 13
    · rw [nwN_13 h13, nwN_13 (to := b) (x := { x with n := if 0 ≤ x.n then plc a (x.n / 64) * 64 + x.n % 64 else x.n }) h13]
      dsimp only
      by_cases h0 : 0 ≤ x.n
      · have p0 := hp (x.n / 64) (by omega)
        have e := h (x.n / 64)
        rw [if_pos h0, if_pos (by omega), show (plc a (x.n / 64) * 64 + x.n % 64) / 64 = plc a (x.n / 64) by omega, e]
        omega
      · rw [if_neg h0, if_neg h0]
    · have c' : nmK x.k = false := by simpa using c
      rw [nwN_no c' h13, nwN_no (x := { x with n := x.n }) c' h13]
  rw [this]
end
theorem perm_lab (m : VT) (nums : List Int) : (permT m nums).lab = m.lab := by obtain ⟨x, l⟩ := m; rfl
theorem perm_kids (m : VT) (nums : List Int) : (permT m nums).kids = nums.map fun i => renum (invN nums nums.length) (m.kids.getD i.toNat z0T) := by obtain ⟨x, l⟩ := m; rfl
theorem permB_iff {m : VT} {nums : List Int} : permB m nums = true ↔ m.lab.k = 36 ∧ nums.length = m.kids.length ∧ isOrd nums = true := by
  obtain ⟨x, l⟩ := m
  show (decide (x.k = 36) && decide (nums.length = l.length) && isOrd nums) = true ↔ _
  rw [Bool.and_eq_true, Bool.and_eq_true, decide_eq_true_eq, decide_eq_true_eq, and_assoc]
  exact Iff.rfl
section
variable {m : VT} {nums : List Int} (h : permB m nums = true)
include h
theorem perm_at {n : Nat} {d : VT} (hd : m.kids[n]? = some d) : ∃ j : Nat, plc (invN nums nums.length) n = j ∧ (permT m nums).kids[j]? = some (renum (invN nums nums.length) d) := by
  obtain ⟨h1, h2, h3⟩ := permB_iff.1 h
  have hn := (List.getElem?_eq_some_iff.1 hd).1
  obtain ⟨a0, a1, a2⟩ := ord_in h3 (n := n) (by omega)
  refine ⟨(atI (n : Int) nums).toNat, ?_, ?_⟩
  · rw [plc_in_ord h3 (by omega)]; omega
  · rw [perm_kids, List.getElem?_map, a2, Option.map_some, Int.toNat_natCast, List.getD_eq_getElem?_getD, hd]; rfl
theorem perm_mv : Mv m (permT m nums) (invN nums nums.length) (fun _ => True) := by
  obtain ⟨h1, h2, h3⟩ := permB_iff.1 h
  have hpos : ∀ n : Int, 0 ≤ n → 0 ≤ plc (invN nums nums.length) n := by
    intro n hn
    by_cases hr : n < nums.length
    · obtain ⟨k, rfl⟩ : ∃ k : Nat, n = k := ⟨n.toNat, by omega⟩
      rw [plc_in_ord h3 (by omega)]; exact (ord_in h3 (by omega)).1
    · rw [plc_out_ord (by omega)]; exact hn
  refine ⟨fun n d _ hd => ⟨nm_all (fun _ => trivial) d, perm_at h hd⟩, fun n _ hn => ?_, fun a b _ _ e => ?_, hpos⟩
  · rw [plc_out_ord (by rw [h2]; exact hn), perm_kids, List.length_map, h2]; exact hn
  · rw [← plc_back h3 a, ← plc_back h3 b, e]
theorem perm_right (hr : rgtB m = true) : rgtB (permT m nums) = true := by
  obtain ⟨h1, h2, h3⟩ := permB_iff.1 h
  obtain ⟨o1, o2⟩ := (isOrd_iff nums).1 h3
  refine rgt_mv (perm_mv h) (perm_lab m nums) (fun j d' hd' => ?_) hr
  rw [perm_kids, List.getElem?_map] at hd'
  obtain ⟨z, hz, rfl⟩ := Option.map_eq_some_iff.1 hd'
  obtain ⟨z0, z1⟩ := o1 z (List.mem_of_getElem? hz)
  refine ⟨z.toNat, m.kids.getD z.toNat z0T, trivial, ?_, ?_, rfl⟩
  · rw [List.getD_eq_getElem?_getD, List.getElem?_eq_getElem (by omega)]; rfl
  · rw [plc_in_ord h3 (by omega), show ((z.toNat : Nat) : Int) = z by omega]; exact atI_at o2 hz
theorem perm_back : permB (permT m nums) (invN nums nums.length) = true ∧ permT (permT m nums) (invN nums nums.length) = m := by
  obtain ⟨h1, h2, h3⟩ := permB_iff.1 h
  refine ⟨permB_iff.2 ⟨by rw [perm_lab]; exact h1, by rw [perm_kids, List.length_map, invN_len], ord_inv h3⟩, ?_⟩
  have e : ∀ a b : VT, a.lab = b.lab → a.kids = b.kids → a = b := by
    intro a b h1 h2
    cases a; cases b
    cases h1; cases h2; rfl
  refine e _ _ (by rw [perm_lab, perm_lab]) ?_
  rw [perm_kids]
  refine List.ext_getElem? (fun k => ?_)
  rw [List.getElem?_map]
  by_cases hk : k < nums.length
  · obtain ⟨d, hd⟩ : ∃ d, m.kids[k]? = some d := ⟨_, List.getElem?_eq_getElem (by omega)⟩
    obtain ⟨j, hj, hd'⟩ := perm_at h hd
    rw [plc_in_ord h3 hk] at hj
    rw [invN_at nums hk, hj, hd, Option.map_some, Int.toNat_natCast, List.getD_eq_getElem?_getD, hd', Option.getD_some, renum_back (plc_back h3) (perm_mv h).pos]
  · rw [List.getElem?_eq_none (by rw [invN_len]; omega), List.getElem?_eq_none (by omega)]; rfl
end
theorem nm_nms {i : Int} {t : VT} : nmsT i t = false → Nm (fun n => n ≠ i) t := by
  induction t using Tr.ind with
  | h x l ih =>
  intro h
  rw [nmsT_mk, Bool.or_eq_false_iff, decide_eq_false_iff_not] at h
  refine (Tr.all_mk _ _ _).2 ⟨⟨fun hk => ?_, fun hk h0 => ?_⟩, fun y hy => ih y hy ?_⟩
  · have := h.1; unfold nmR at this; rw [if_pos hk] at this; exact this
  · have := h.1; unfold nmR at this; rw [if_neg (by simp [nmK, hk]), if_pos ⟨hk, h0⟩] at this; exact this
  · have := h.2; rw [List.any_eq_false] at this; simpa using this y hy
theorem plc_less {i : Int} (hi : 0 ≤ i) (N : Nat) (n : Int) (hn : n ≠ i) : plc (lessI i N) n = if n < 0 ∨ (N : Int) ≤ n ∨ n < i then n else n - 1 := by
  unfold plc
  by_cases h0 : n < 0
  · rw [if_pos h0, if_pos (.inl h0)]
  rw [if_neg h0]
  by_cases h1 : (N : Int) ≤ n
  · rw [List.getElem?_eq_none (by rw [lessI_len]; omega), if_pos (.inr (.inl h1))]
  have e : (lessI i N)[n.toNat]? = some (if n < i then n else if n = i then -1 else n - 1) := by
    unfold lessI
    rw [List.getElem?_map, List.getElem?_range (by omega), Option.map_some, show ((n.toNat : Nat) : Int) = n by omega]
  rw [e]
  dsimp only
  by_cases h2 : n < i
  · rw [if_pos h2, if_neg h0, if_pos (.inr (.inr h2))]
  · rw [if_neg h2, if_neg hn, if_neg (show ¬ n - 1 < 0 by omega), if_neg (by omega)]
theorem drop_right {m : VT} {i : Int} (h : dropB m i = true) (hr : rgtB m = true) : rgtB (dropT m i) = true := by
  obtain ⟨x, l⟩ := m
  unfold dropB at h
  dsimp only at h
  rw [Bool.and_eq_true, Bool.and_eq_true, Bool.and_eq_true, Bool.and_eq_true, decide_eq_true_eq, decide_eq_true_eq, decide_eq_true_eq] at h
  obtain ⟨⟨⟨⟨h36, hi⟩, hl⟩, _⟩, hno⟩ := h
  have hno : ∀ y ∈ l.eraseIdx i.toNat, nmsT i y = false := by
    intro y hy
    simp only [Bool.not_eq_true', List.any_eq_false] at hno
    simpa using hno y hy
  have hat : ∀ (n : Nat) (d : VT), (n : Int) ≠ i → l[n]? = some d → ∃ j : Nat, plc (lessI i l.length) n = j ∧ (l.eraseIdx i.toNat)[j]? = some d := by
    intro n d hn hd
    have hlt := (List.getElem?_eq_some_iff.1 hd).1
    rw [plc_less hi l.length n hn]
    by_cases hc : (n : Int) < i
    · refine ⟨n, by rw [if_pos (by omega)], ?_⟩
      rw [List.getElem?_eraseIdx, if_pos (by omega)]; exact hd
    · refine ⟨n - 1, by rw [if_neg (by omega)]; omega, ?_⟩
      rw [List.getElem?_eraseIdx, if_neg (by omega), show n - 1 + 1 = n by omega]; exact hd
  have M : Mv (.mk x l) (dropT (.mk x l) i) (lessI i l.length) (fun n => n ≠ i) := by
    have hk : (dropT (.mk x l) i).kids = (l.eraseIdx i.toNat).map (renum (lessI i l.length)) := rfl
    have hk' : (Tr.mk x l : VT).kids = l := rfl
    have hlen : ((l.eraseIdx i.toNat).map (renum (lessI i l.length))).length = l.length - 1 := by rw [List.length_map, List.length_eraseIdx, if_pos (by omega)]
    refine ⟨fun n d hn hd => ?_, fun n hn hr => ?_, fun a b ha hb e => ?_, fun n hn => ?_⟩
    · obtain ⟨j, hj, hd'⟩ := hat n d hn hd
      refine ⟨nm_nms (hno d (List.mem_of_getElem? hd')), j, hj, ?_⟩
      rw [hk, List.getElem?_map, hd']; rfl
    · rw [hk'] at hr
      rw [hk, hlen, plc_less hi l.length n hn]
      split <;> omega
    · rw [plc_less hi l.length a ha, plc_less hi l.length b hb] at e
      split at e <;> split at e <;> omega
    · by_cases hni : n = i
      · subst hni
        unfold plc
        split
        · exact hn
        · split
          · split <;> omega
          · exact hn
      · rw [plc_less hi l.length n hni]
        split <;> omega
  refine rgt_mv M rfl (fun j d' hd' => ?_) hr
  have hd' : ((l.eraseIdx i.toNat).map (renum (lessI i l.length)))[j]? = some d' := hd'
  rw [List.getElem?_map] at hd'
  obtain ⟨d, hd, rfl⟩ := Option.map_eq_some_iff.1 hd'
  rw [List.getElem?_eraseIdx] at hd
  have hk' : (Tr.mk x l : VT).kids = l := rfl
  by_cases hc : j < i.toNat
  · rw [if_pos hc] at hd
    refine ⟨j, d, by omega, hd, ?_, rfl⟩
    rw [plc_less hi l.length j (by omega), if_pos (by omega)]
  · rw [if_neg hc] at hd
    have := (List.getElem?_eq_some_iff.1 hd).1
    refine ⟨j + 1, d, by omega, hd, ?_, rfl⟩
    rw [plc_less hi l.length ((j + 1 : Nat) : Int) (by omega), if_neg (by omega)]
    omega
end Go.Proofs.Ythmdllhhmhbhbaa.am
end
section
namespace Go.Proofs.Ythmdllhhmhbhbaa.am
open Go.ChangeShapes Go.WideShapes Go.ChangeAt Go.RowKit
open vt
set_option linter.unusedVariables false
set_option linter.unusedSimpArgs false
theorem cntK_len {l : List VT} {lv n : Int} : ∀ k, k ≤ l.length → cntK l lv n k ≤ n ∧ (0 ≤ cntK l lv n k → cntK l lv n k + k ≤ n) := fun k => by
  induction k with
  | zero => intro _; rw [cntK_zero]; omega
  | succ k ih =>
    intro hk
    obtain ⟨i1, i2⟩ := ih (by omega)
    have hy : l[k]? = some (l[k]'(by omega)) := List.getElem?_eq_getElem _
    rw [cntK_succ hy]
    split
    · rename_i hc
      have h1 := cnt_le (l[k]'(by omega)) (cntK l lv n k) (lv - 1) (by omega)
      have h2 := Tr.size_pos (l[k]'(by omega))
      have h3 := i2 hc
      refine ⟨by omega, fun h => ?_⟩
      have := h1.2.2 h
      omega
    · rename_i hc; exact ⟨i1, fun h => absurd h hc⟩
set_option maxRecDepth 100000 in
set_option maxHeartbeats 4000000 in
theorem rcnt_row (t : VT) : ∀ left lv : Int, 0 ≤ left → left ≤ 1000000 → lv ≤ 1000 → -1000000 ≤ lv → Row Try.prog 11 [vT t, vI left, vI lv] [] (vI (cntT t left lv)) [] := by
  induction t using Tr.ind with
  | h x l ih =>
  intro left lv h0 h1 h2 h3
  have hlen := Tr.len_size (x := x) (l := l)
  rw [cnt_mk]
  refine row_of Try.func11 rfl rfl (Nat.le_of_ble_eq_true rfl) ?_
  by_cases hl : lv ≤ 0
  · rw [if_pos hl]
    repeat (first | refine aw_seq ?_ | refine aw_skip ?_ | refine aw_block ?_ | refine aw_exit ?_ | refine aw_cond rfl (fun _ => ?_) (fun hb => absurd hb (by decide)) | refine aw_cond rfl (fun hb => absurd hb (by decide)) (fun _ => ?_) | (refine aw_reg (fun K hK => ?_); simp -implicitDefEqProofs [hl]; refine hK _ ?_) | (refine aw_drw mixd (fun K hK => ?_); simp -implicitDefEqProofs [hl]; refine hK _ _ (by rfl) ?_) | fail)
    refine aw_ret (fin_ret ?_); simp -implicitDefEqProofs [FinP, resV, resT] <;> try rfl
  rw [if_neg hl]
  have w1 : IntKind.i64.wrap (left - 1) = left - 1 := i64i _ (by omega) (by omega)
  have w3 : IntKind.i64.wrap (lv - 1) = lv - 1 := i64i _ (by omega) (by omega)
  repeat (first | refine aw_seq ?_ | refine aw_skip ?_ | refine aw_block ?_ | refine aw_exit ?_ | refine aw_cond rfl (fun _ => ?_) (fun hb => absurd hb (by decide)) | refine aw_cond rfl (fun hb => absurd hb (by decide)) (fun _ => ?_) | (refine aw_reg (fun K hK => ?_); simp -implicitDefEqProofs [hl, w1]; refine hK _ ?_) | (refine aw_drw mixd (fun K hK => ?_); simp -implicitDefEqProofs [hl, w1]; refine hK _ _ (by rfl) ?_) | fail)
  refine aw_lp (ι := Nat) (fun k => mkSt [(1, vI (cntK l lv (left - 1) k)), (2, vI lv), (3, .v (.c (.ptr 0 0))), (7, vI (k : Nat))] [some (.box (ta (.mk x l)))]) (fun k => k ≤ l.length ∧ -2 ≤ cntK l lv (left - 1) k ∧ cntK l lv (left - 1) k ≤ left) (fun k => l.length - k) 0 ⟨Nat.zero_le _, by rw [cntK_zero]; omega, by rw [cntK_zero]; omega⟩ (cov_intro [0] (by simp -implicitDefEqProofs [cntK_zero]) (by simp -implicitDefEqProofs [cntK_zero]) (by decide) rfl (by simp)) (fun Z hI k hkz => ?_)
  obtain ⟨hk, hc1, hc2⟩ := hkz
  by_cases hkl : k < l.length; rotate_left
  · have : k = l.length := by omega
    subst this
    repeat (first | refine aw_seq ?_ | refine aw_skip ?_ | refine aw_block ?_ | refine aw_exit ?_ | refine aw_cond rfl (fun _ => ?_) (fun hb => absurd hb (by decide)) | refine aw_cond rfl (fun hb => absurd hb (by decide)) (fun _ => ?_) | (refine aw_reg (fun K hK => ?_); simp -implicitDefEqProofs; refine hK _ ?_) | (refine aw_drw mixd (fun K hK => ?_); simp -implicitDefEqProofs; refine hK _ _ (by rfl) ?_) | fail)
    refine aw_ret (fin_ret ?_); simp -implicitDefEqProofs [FinP, resV, resT] <;> try rfl
  by_cases hc : 0 ≤ cntK l lv (left - 1) k; rotate_left
  · have := cntK_neg (l := l) (lv := lv) (n := left - 1) (k := k) (by omega) l.length hk (Nat.le_refl _)
    rw [this]
    repeat (first | refine aw_seq ?_ | refine aw_skip ?_ | refine aw_block ?_ | refine aw_exit ?_ | refine aw_cond rfl (fun _ => ?_) (fun hb => absurd hb (by decide)) | refine aw_cond rfl (fun hb => absurd hb (by decide)) (fun _ => ?_) | (refine aw_reg (fun K hK => ?_); simp -implicitDefEqProofs [hkl, hc]; refine hK _ ?_) | (refine aw_drw mixd (fun K hK => ?_); simp -implicitDefEqProofs [hkl, hc]; refine hK _ _ (by rfl) ?_) | fail)
    refine aw_ret (fin_ret ?_); simp -implicitDefEqProofs [FinP, resV, resT] <;> try rfl
  obtain ⟨⟨ax, al⟩, ha⟩ : ∃ a, l[k]? = some a := ⟨_, List.getElem?_eq_getElem hkl⟩
  have ha' := (List.getElem?_eq_some_iff.1 ha).2
  have hsz1 := Tr.size_at (x := x) ha
  have hcs := cntK_succ (lv := lv) (n := left - 1) ha
  have hkn := (cntK_len (l := l) (lv := lv) (n := left - 1) k hk).2 hc
  have w2 : IntKind.i64.wrap ((k : Nat) + 1 : Int) = (k : Nat) + 1 := i64i _ (by omega) (by omega)
  rw [if_pos hc] at hcs
  have hle := cnt_le (.mk ax al) (cntK l lv (left - 1) k) (lv - 1) (by omega)
  repeat (first | refine aw_seq ?_ | refine aw_skip ?_ | refine aw_block ?_ | refine aw_exit ?_ | refine aw_cond rfl (fun _ => ?_) (fun hb => absurd hb (by decide)) | refine aw_cond rfl (fun hb => absurd hb (by decide)) (fun _ => ?_) | (refine aw_reg (fun K hK => ?_); simp -implicitDefEqProofs [hkl, hc]; refine hK _ ?_) | (refine aw_drw mixd (fun K hK => ?_); simp -implicitDefEqProofs [hkl, hc]; refine hK _ _ (by rfl) ?_) | fail)
  refine aw_reg (fun K hK => ?_); simp -implicitDefEqProofs [hkl, ha, ha', w3]
  refine ar_call (call_pure (ih _ (List.mem_of_getElem? ha) (cntK l lv (left - 1) k) (lv - 1) (by omega) (by omega) (by omega) (by omega)) (by simp) (fun _ => rfl) rfl ?_)
  simp -implicitDefEqProofs; refine hK _ ?_
  repeat (first | refine aw_seq ?_ | refine aw_skip ?_ | refine aw_block ?_ | refine aw_exit ?_ | refine aw_cond rfl (fun _ => ?_) (fun hb => absurd hb (by decide)) | refine aw_cond rfl (fun hb => absurd hb (by decide)) (fun _ => ?_) | (refine aw_reg (fun K hK => ?_); simp -implicitDefEqProofs [w2]; refine hK _ ?_) | (refine aw_drw mixd (fun K hK => ?_); simp -implicitDefEqProofs [w2]; refine hK _ _ (by rfl) ?_) | fail)
  refine ⟨k + 1, ⟨by omega, by rw [hcs]; omega, by rw [hcs]; omega⟩, (by dsimp only; omega), ?_⟩
  rw [hI]; exact cov_intro [0] (by simp -implicitDefEqProofs [hcs]) (by simp -implicitDefEqProofs [hcs]) (by decide) rfl (by simp)
set_option maxRecDepth 100000 in
set_option maxHeartbeats 4000000 in
theorem rnmd_row (t : VT) : t.size ≤ 1000000 → Row Try.prog 12 [vT t] [] (vB (nmd t)) [] := by
  induction t using Tr.ind with
  | h x l ih =>
  intro hsz
  have hlen := Tr.len_size (x := x) (l := l)
  rw [nmd_mk]
  refine row_of Try.func12 rfl rfl (Nat.le_of_ble_eq_true rfl) ?_
  by_cases hs : 40 < x.s.size
  · have hs' : (40 : Int) < (x.s.size : Nat) := by omega
    repeat (first | refine aw_seq ?_ | refine aw_skip ?_ | refine aw_block ?_ | refine aw_exit ?_ | refine aw_cond rfl (fun _ => ?_) (fun hb => absurd hb (by decide)) | refine aw_cond rfl (fun hb => absurd hb (by decide)) (fun _ => ?_) | (refine aw_reg (fun K hK => ?_); simp -implicitDefEqProofs [hs, hs']; refine hK _ ?_) | (refine aw_drw mixd (fun K hK => ?_); simp -implicitDefEqProofs [hs, hs']; refine hK _ _ (by rfl) ?_) | fail)
    refine aw_ret (fin_ret ?_); simp -implicitDefEqProofs [FinP, resV, resT, hs] <;> try rfl
  have hs' : ¬ (40 : Int) < (x.s.size : Nat) := by omega
  repeat (first | refine aw_seq ?_ | refine aw_skip ?_ | refine aw_block ?_ | refine aw_exit ?_ | refine aw_cond rfl (fun _ => ?_) (fun hb => absurd hb (by decide)) | refine aw_cond rfl (fun hb => absurd hb (by decide)) (fun _ => ?_) | (refine aw_reg (fun K hK => ?_); simp -implicitDefEqProofs [hs, hs']; refine hK _ ?_) | (refine aw_drw mixd (fun K hK => ?_); simp -implicitDefEqProofs [hs, hs']; refine hK _ _ (by rfl) ?_) | fail)
  refine aw_lp (ι := Nat) (fun k => mkSt [(1, .v (.c (.ptr 0 0))), (3, vI (k : Nat))] [some (.box (ta (.mk x l)))]) (fun k => k ≤ l.length ∧ anyK nmd l k = false) (fun k => l.length - k) 0 ⟨Nat.zero_le _, anyK_zero _ _⟩ (cov_intro [0] (by simp -implicitDefEqProofs) (by simp -implicitDefEqProofs) (by decide) rfl (by simp)) (fun Z hI k hkz => ?_)
  obtain ⟨hk, hz⟩ := hkz
  by_cases hkl : k < l.length; rotate_left
  · have : k = l.length := by omega
    subst this
    rw [anyK_all] at hz
    repeat (first | refine aw_seq ?_ | refine aw_skip ?_ | refine aw_block ?_ | refine aw_exit ?_ | refine aw_cond rfl (fun _ => ?_) (fun hb => absurd hb (by decide)) | refine aw_cond rfl (fun hb => absurd hb (by decide)) (fun _ => ?_) | (refine aw_reg (fun K hK => ?_); simp -implicitDefEqProofs; refine hK _ ?_) | (refine aw_drw mixd (fun K hK => ?_); simp -implicitDefEqProofs; refine hK _ _ (by rfl) ?_) | fail)
    refine aw_ret (fin_ret ?_); simp -implicitDefEqProofs [FinP, resV, resT, hs, hz] <;> try rfl
  obtain ⟨⟨ax, al⟩, ha⟩ : ∃ a, l[k]? = some a := ⟨_, List.getElem?_eq_getElem hkl⟩
  have ha' := (List.getElem?_eq_some_iff.1 ha).2
  have hsz1 := Tr.size_at (x := x) ha
  have w2 : IntKind.i64.wrap ((k : Nat) + 1 : Int) = (k : Nat) + 1 := i64i _ (by omega) (by omega)
  have hcs := anyK_succ (f := nmd) ha
  repeat (first | refine aw_seq ?_ | refine aw_skip ?_ | refine aw_block ?_ | refine aw_exit ?_ | refine aw_cond rfl (fun _ => ?_) (fun hb => absurd hb (by decide)) | refine aw_cond rfl (fun hb => absurd hb (by decide)) (fun _ => ?_) | (refine aw_reg (fun K hK => ?_); simp -implicitDefEqProofs [hkl]; refine hK _ ?_) | (refine aw_drw mixd (fun K hK => ?_); simp -implicitDefEqProofs [hkl]; refine hK _ _ (by rfl) ?_) | fail)
  refine aw_reg (fun K hK => ?_); simp -implicitDefEqProofs [hkl, ha, ha']
  refine ar_call (call_pure (ih _ (List.mem_of_getElem? ha) (by omega)) (by simp) (fun _ => rfl) rfl ?_)
  simp -implicitDefEqProofs; refine hK _ ?_
  refine aw_cond rfl (fun hb => ?_) (fun hb => ?_)
  · have := any_of ha hb
    repeat (first | refine aw_seq ?_ | refine aw_skip ?_ | refine aw_block ?_ | refine aw_exit ?_ | refine aw_cond rfl (fun _ => ?_) (fun hb => absurd hb (by decide)) | refine aw_cond rfl (fun hb => absurd hb (by decide)) (fun _ => ?_) | (refine aw_reg (fun K hK => ?_); simp -implicitDefEqProofs; refine hK _ ?_) | (refine aw_drw mixd (fun K hK => ?_); simp -implicitDefEqProofs; refine hK _ _ (by rfl) ?_) | fail)
    refine aw_ret (fin_ret ?_); simp -implicitDefEqProofs [FinP, resV, resT, this] <;> try rfl
  · repeat (first | refine aw_seq ?_ | refine aw_skip ?_ | refine aw_block ?_ | refine aw_exit ?_ | refine aw_cond rfl (fun _ => ?_) (fun hb => absurd hb (by decide)) | refine aw_cond rfl (fun hb => absurd hb (by decide)) (fun _ => ?_) | (refine aw_reg (fun K hK => ?_); simp -implicitDefEqProofs [w2]; refine hK _ ?_) | (refine aw_drw mixd (fun K hK => ?_); simp -implicitDefEqProofs [w2]; refine hK _ _ (by rfl) ?_) | fail)
    refine ⟨k + 1, ⟨by omega, by rw [hcs, hz, hb]; rfl⟩, (by dsimp only; omega), ?_⟩
    rw [hI]; exact cov_intro [0] (by simp -implicitDefEqProofs) (by simp -implicitDefEqProofs) (by decide) rfl (by simp)
set_option maxRecDepth 100000 in
set_option maxHeartbeats 4000000 in
theorem rlarge_row (t : VT) : Row Try.prog 4 [vT t] [] (vB (large t)) [] := by
  refine row_of Try.func4 rfl rfl (Nat.le_of_ble_eq_true rfl) ?_
  obtain ⟨x, l⟩ := t
  repeat (first | refine aw_seq ?_ | refine aw_skip ?_ | refine aw_block ?_ | refine aw_exit ?_ | refine aw_cond rfl (fun _ => ?_) (fun hb => absurd hb (by decide)) | refine aw_cond rfl (fun hb => absurd hb (by decide)) (fun _ => ?_) | (refine aw_reg (fun K hK => ?_); simp -implicitDefEqProofs; refine hK _ ?_) | (refine aw_drw mixd (fun K hK => ?_); simp -implicitDefEqProofs; refine hK _ _ (by rfl) ?_) | fail)
  refine aw_reg (fun K hK => ?_); simp -implicitDefEqProofs
  refine ar_call (call_pure (rcnt_row (.mk x l) 400 70 (by omega) (by omega) (by omega) (by omega)) (by simp) (fun _ => rfl) rfl ?_)
  by_cases hc : cntT (.mk x l) 400 70 < 0
  · simp -implicitDefEqProofs [hc]; refine hK _ ?_
    refine aw_ret (fin_ret ?_); simp -implicitDefEqProofs [FinP, resV, resT, large, hc] <;> try rfl
  · simp -implicitDefEqProofs [hc]
    refine ar_call (call_pure (rnmd_row (.mk x l) (by have := (cnt_le (.mk x l) 400 70 (by omega)).2.2 (by omega); omega)) (by simp) (fun _ => rfl) rfl ?_)
    simp -implicitDefEqProofs; refine hK _ ?_
    refine aw_ret (fin_ret ?_); simp -implicitDefEqProofs [FinP, resV, resT, large, hc] <;> try rfl
end Go.Proofs.Ythmdllhhmhbhbaa.am
end
section
namespace Go.Proofs.Ythmdllhhmhbhbaa.am
open Go.ChangeShapes Go.WideShapes Go.ChangeAt Go.RowKit
open vt
set_option linter.unusedVariables false
set_option linter.unusedSimpArgs false
theorem perm_ok {m : VT} (hm : in64 m) {nums : List Int} (hl : nums.length ≤ 1000000) : in64 (permT m nums) := by
  obtain ⟨x, l⟩ := m
  obtain ⟨h1, h2⟩ := (Tr.all_mk _ _ _).1 hm
  refine (Tr.all_mk _ _ _).2 ⟨h1, fun y hy => ?_⟩
  obtain ⟨i, _, rfl⟩ := List.mem_map.1 hy
  refine renum_ok (okTo_inv nums hl) _ ?_
  by_cases hi : i.toNat < l.length
  · exact h2 _ (by simp [List.getD, hi])
  · rw [show l.getD i.toNat z0T = z0T by simp [List.getD, hi]]; exact z0T_ok
theorem drop_ok {m : VT} (hm : in64 m) (hs : m.size ≤ 1000000) (i : Int) : in64 (dropT m i) := by
  obtain ⟨x, l⟩ := m
  obtain ⟨h1, h2⟩ := (Tr.all_mk _ _ _).1 hm
  have := Tr.len_size (x := x) (l := l)
  refine (Tr.all_mk _ _ _).2 ⟨h1, fun y hy => ?_⟩
  obtain ⟨t, ht, rfl⟩ := List.mem_map.1 hy
  exact renum_ok (okTo_less i l.length (by omega)) _ (h2 _ (List.mem_of_mem_eraseIdx ht))
theorem sum_le_n {B : Nat} : ∀ {l : List VT}, (∀ t ∈ l, t.size ≤ B) → (l.map Tr.size).sum ≤ l.length * B
  | [], _ => by simp
  | t :: l, h => by
    have h1 := h t (by simp)
    have h2 := sum_le_n (B := B) (l := l) (fun y hy => h y (by simp [hy]))
    simp only [List.map_cons, List.sum_cons, List.length_cons]
    rw [Nat.add_mul]; omega
theorem perm_small (m : VT) (nums : List Int) (hs : m.size ≤ 400) (hn : nums.length ≤ 100) : (permT m nums).size ≤ 100000 := by
  obtain ⟨x, l⟩ := m
  have h : ∀ t ∈ (permT (.mk x l) nums).kids, t.size ≤ 400 := by
    intro t ht
    rw [perm_kids] at ht
    obtain ⟨i, _, rfl⟩ := List.mem_map.1 ht
    rw [renum_size]
    have := getD_size (m := .mk x l) i.toNat
    omega
  have h1 := sum_le_n h
  have h2 : (permT (.mk x l) nums).kids.length = nums.length := by rw [perm_kids, List.length_map]
  rw [h2] at h1
  have h3 : (permT (.mk x l) nums).size = 1 + ((permT (.mk x l) nums).kids.map Tr.size).sum := by
    show (Tr.mk x _ : VT).size = _
    rw [Tr.size_mk]; rfl
  have h4 : nums.length * 400 ≤ 100 * 400 := Nat.mul_le_mul_right _ hn
  omega
theorem sum_erase : ∀ (l : List VT) (i : Nat), ((l.eraseIdx i).map Tr.size).sum ≤ (l.map Tr.size).sum
  | [], i => by simp
  | t :: l, 0 => by simp
  | t :: l, i + 1 => by
    have := sum_erase l i
    simp only [List.eraseIdx_cons_succ, List.map_cons, List.sum_cons]
    omega
theorem drop_small (m : VT) (i : Int) : (dropT m i).size ≤ m.size := by
  obtain ⟨x, l⟩ := m
  show (Tr.mk x ((l.eraseIdx i.toNat).map (renum (lessI i l.length))) : VT).size ≤ _
  rw [Tr.size_mk, Tr.size_mk, List.map_map, show (Tr.size ∘ renum (lessI i l.length)) = Tr.size from funext fun t => renum_size _ t]
  have := sum_erase l i.toNat
  omega
set_option maxRecDepth 100000 in
set_option maxHeartbeats 4000000 in
theorem law_back_row (hrep : RepH) (m : VT) (nums : List Int) (i : Int) (hm : in64 m) (hi : i ≤ 9223372036854775807) : Row Try.prog 3 [vT m, vIs nums, vI i] [] (vB true) [] := by
  have haw := awake32_row
  have hL := rlarge_row m
  by_cases gl : large m = true
  · rw [gl] at hL
    obtain ⟨lx, ll⟩ := m
    refine row_of Try.func3 rfl rfl (Nat.le_of_ble_eq_true rfl) ?_
    repeat' (first | refine aw_seq ?_ | refine aw_skip ?_ | refine aw_block ?_ | refine aw_exit ?_ | refine aw_cond rfl (fun _ => ?_) (fun hb => absurd hb (by decide)) | refine aw_cond rfl (fun hb => absurd hb (by decide)) (fun _ => ?_) | (refine aw_reg (fun K hK => ?_); simp -implicitDefEqProofs) | (refine aw_drw mixd (fun K hK => ?_); simp -implicitDefEqProofs) | refine hK _ ?_ | refine hK _ _ (by rfl) ?_ | (refine ar_call (cp hL ?_); simp -implicitDefEqProofs) | (refine ard_call (dp hL ?_); simp -implicitDefEqProofs) | (refine ar_call (cp haw ?_); simp -implicitDefEqProofs) | (refine ard_call (dp haw ?_); simp -implicitDefEqProofs) | fail)
    refine aw_ret (fin_ret ?_); simp -implicitDefEqProofs [FinP, resV, resT] <;> try rfl
  have gl : large m = false := by simpa using gl
  rw [gl] at hL
  have sl := large_size gl
  by_cases hn : 100 < nums.length
  · have hn' : (100 : Int) < nums.length := by omega
    obtain ⟨lx, ll⟩ := m
    clear gl
    refine row_of Try.func3 rfl rfl (Nat.le_of_ble_eq_true rfl) ?_
    repeat' (first | refine aw_seq ?_ | refine aw_skip ?_ | refine aw_block ?_ | refine aw_exit ?_ | refine aw_cond rfl (fun _ => ?_) (fun hb => absurd hb (by decide)) | refine aw_cond rfl (fun hb => absurd hb (by decide)) (fun _ => ?_) | (refine aw_reg (fun K hK => ?_); simp -implicitDefEqProofs [hn, hn']) | (refine aw_drw mixd (fun K hK => ?_); simp -implicitDefEqProofs [hn, hn']) | refine hK _ ?_ | refine hK _ _ (by rfl) ?_ | (refine ar_call (cp hL ?_); simp -implicitDefEqProofs [hn, hn']) | (refine ard_call (dp hL ?_); simp -implicitDefEqProofs [hn, hn']) | (refine ar_call (cp haw ?_); simp -implicitDefEqProofs [hn, hn']) | (refine ard_call (dp haw ?_); simp -implicitDefEqProofs [hn, hn']) | fail)
    refine aw_ret (fin_ret ?_); simp -implicitDefEqProofs [FinP, resV, resT] <;> try rfl
  have hn' : ¬ (100 : Int) < nums.length := by omega
  have hR := rright_row m hm (by omega)
  by_cases hr : rgtB m = true; rotate_left
  · have hr : rgtB m = false := by simpa using hr
    rw [hr] at hR
    obtain ⟨lx, ll⟩ := m
    clear gl hr sl
    refine row_of Try.func3 rfl rfl (Nat.le_of_ble_eq_true rfl) ?_
    repeat' (first | refine aw_seq ?_ | refine aw_skip ?_ | refine aw_block ?_ | refine aw_exit ?_ | refine aw_cond rfl (fun _ => ?_) (fun hb => absurd hb (by decide)) | refine aw_cond rfl (fun hb => absurd hb (by decide)) (fun _ => ?_) | (refine aw_reg (fun K hK => ?_); simp -implicitDefEqProofs [hn, hn']) | (refine aw_drw mixd (fun K hK => ?_); simp -implicitDefEqProofs [hn, hn']) | refine hK _ ?_ | refine hK _ _ (by rfl) ?_ | (refine ar_call (cp hL ?_); simp -implicitDefEqProofs [hn, hn']) | (refine ard_call (dp hL ?_); simp -implicitDefEqProofs [hn, hn']) | (refine ar_call (cp hR ?_); simp -implicitDefEqProofs [hn, hn']) | (refine ard_call (dp hR ?_); simp -implicitDefEqProofs [hn, hn']) | (refine ar_call (cp haw ?_); simp -implicitDefEqProofs [hn, hn']) | (refine ard_call (dp haw ?_); simp -implicitDefEqProofs [hn, hn']) | fail)
    refine aw_ret (fin_ret ?_); simp -implicitDefEqProofs [FinP, resV, resT] <;> try rfl
  have hD := drop_row m hm (by omega) i hi
  have hP := perm_row m hm (by omega) nums (by omega) (inv_row nums (by omega) (hrep nums.length (by omega)))
  have hDR : dropB m i = true → Row Try.prog 5 [vT (dropT m i)] [] (vB true) [] := fun h => by
    have := rright_row (dropT m i) (drop_ok hm (by omega) i) (by have := drop_small m i; omega)
    rw [drop_right h hr] at this; exact this
  have hPR : permB m nums = true → Row Try.prog 5 [vT (permT m nums)] [] (vB true) [] ∧ Row Try.prog 9 [vIs nums, vI (m.kids.length : Nat)] [] (vIB2 (invN nums nums.length) true) [] ∧ Row Try.prog 8 [vT (permT m nums), vIs (invN nums nums.length)] [] (vTB m true) [] := fun h => by
    obtain ⟨h1, h2, h3⟩ := permB_iff.1 h
    have a := rright_row (permT m nums) (perm_ok hm (by omega)) (perm_small m nums sl (by omega))
    rw [perm_right h hr] at a
    have b := to_row nums (by omega)
    rw [h3, if_pos rfl] at b
    have c := perm_row (permT m nums) (perm_ok hm (by omega)) (by have := perm_small m nums sl (by omega); omega) (invN nums nums.length) (by rw [invN_len]; omega) (inv_row _ (by rw [invN_len]; omega) (hrep _ (by rw [invN_len]; omega)))
    rw [(perm_back h).1, if_pos rfl, (perm_back h).2] at c
    exact ⟨a, by rw [← h2]; exact b, c⟩
  have hS := rsame_row m (by omega) m (by omega)
  rw [same_refl] at hS
  rw [hr] at hR
  obtain ⟨I, hI⟩ : ∃ I, invN nums nums.length = I := ⟨_, rfl⟩
  rw [hI] at hPR
  obtain ⟨dt, hdt⟩ : ∃ t, dropT m i = t := ⟨_, rfl⟩
  obtain ⟨pt, hpt⟩ : ∃ t, permT m nums = t := ⟨_, rfl⟩
  rw [hdt] at hD hDR
  rw [hpt] at hP hPR
  obtain ⟨dbb, hdb⟩ : ∃ b, dropB m i = b := ⟨_, rfl⟩
  obtain ⟨pbb, hpb⟩ : ∃ b, permB m nums = b := ⟨_, rfl⟩
  rw [hdb] at hD hDR
  rw [hpb] at hP hPR
  clear gl hr hI hdt hpt hdb hpb hrep sl
  obtain ⟨lx, ll⟩ := m
  obtain ⟨dx, dl⟩ := dt
  obtain ⟨px, pl⟩ := pt
  have hk : (Tr.mk lx ll : VT).kids.length = ll.length := rfl
  rw [hk] at hPR
  cases dbb with
  | true =>
    have hDR := hDR rfl
    rw [if_pos rfl] at hD
    cases pbb with
    | true =>
      obtain ⟨q1, q2, q3⟩ := hPR rfl
      clear hPR
      rw [if_pos rfl] at hP
      refine row_of Try.func3 rfl rfl (Nat.le_of_ble_eq_true rfl) ?_
      repeat' (first | refine aw_seq ?_ | refine aw_skip ?_ | refine aw_block ?_ | refine aw_exit ?_ | refine aw_cond rfl (fun _ => ?_) (fun hb => absurd hb (by decide)) | refine aw_cond rfl (fun hb => absurd hb (by decide)) (fun _ => ?_) | (refine aw_reg (fun K hK => ?_); simp -implicitDefEqProofs [hn, hn']) | (refine aw_drw mixd (fun K hK => ?_); simp -implicitDefEqProofs [hn, hn']) | refine hK _ ?_ | refine hK _ _ (by rfl) ?_ | (refine ar_call (cp hL ?_); simp -implicitDefEqProofs [hn, hn']) | (refine ard_call (dp hL ?_); simp -implicitDefEqProofs [hn, hn']) | (refine ar_call (cp hR ?_); simp -implicitDefEqProofs [hn, hn']) | (refine ard_call (dp hR ?_); simp -implicitDefEqProofs [hn, hn']) | (refine ar_call (cp hD ?_); simp -implicitDefEqProofs [hn, hn']) | (refine ard_call (dp hD ?_); simp -implicitDefEqProofs [hn, hn']) | (refine ar_call (cp hDR ?_); simp -implicitDefEqProofs [hn, hn']) | (refine ard_call (dp hDR ?_); simp -implicitDefEqProofs [hn, hn']) | (refine ar_call (cp hP ?_); simp -implicitDefEqProofs [hn, hn']) | (refine ard_call (dp hP ?_); simp -implicitDefEqProofs [hn, hn']) | (refine ar_call (cp q1 ?_); simp -implicitDefEqProofs [hn, hn']) | (refine ard_call (dp q1 ?_); simp -implicitDefEqProofs [hn, hn']) | (refine ar_call (cp q2 ?_); simp -implicitDefEqProofs [hn, hn']) | (refine ard_call (dp q2 ?_); simp -implicitDefEqProofs [hn, hn']) | (refine ar_call (cp q3 ?_); simp -implicitDefEqProofs [hn, hn']) | (refine ard_call (dp q3 ?_); simp -implicitDefEqProofs [hn, hn']) | (refine ar_call (cp hS ?_); simp -implicitDefEqProofs [hn, hn']) | (refine ard_call (dp hS ?_); simp -implicitDefEqProofs [hn, hn']) | (refine ar_call (cp haw ?_); simp -implicitDefEqProofs [hn, hn']) | (refine ard_call (dp haw ?_); simp -implicitDefEqProofs [hn, hn']) | fail)
      refine aw_ret (fin_ret ?_); simp -implicitDefEqProofs [FinP, resV, resT] <;> try rfl
    | false =>
      clear hPR
      rw [if_neg (by decide)] at hP
      refine row_of Try.func3 rfl rfl (Nat.le_of_ble_eq_true rfl) ?_
      repeat' (first | refine aw_seq ?_ | refine aw_skip ?_ | refine aw_block ?_ | refine aw_exit ?_ | refine aw_cond rfl (fun _ => ?_) (fun hb => absurd hb (by decide)) | refine aw_cond rfl (fun hb => absurd hb (by decide)) (fun _ => ?_) | (refine aw_reg (fun K hK => ?_); simp -implicitDefEqProofs [hn, hn']) | (refine aw_drw mixd (fun K hK => ?_); simp -implicitDefEqProofs [hn, hn']) | refine hK _ ?_ | refine hK _ _ (by rfl) ?_ | (refine ar_call (cp hL ?_); simp -implicitDefEqProofs [hn, hn']) | (refine ard_call (dp hL ?_); simp -implicitDefEqProofs [hn, hn']) | (refine ar_call (cp hR ?_); simp -implicitDefEqProofs [hn, hn']) | (refine ard_call (dp hR ?_); simp -implicitDefEqProofs [hn, hn']) | (refine ar_call (cp hD ?_); simp -implicitDefEqProofs [hn, hn']) | (refine ard_call (dp hD ?_); simp -implicitDefEqProofs [hn, hn']) | (refine ar_call (cp hDR ?_); simp -implicitDefEqProofs [hn, hn']) | (refine ard_call (dp hDR ?_); simp -implicitDefEqProofs [hn, hn']) | (refine ar_call (cp hP ?_); simp -implicitDefEqProofs [hn, hn']) | (refine ard_call (dp hP ?_); simp -implicitDefEqProofs [hn, hn']) | (refine ar_call (cp haw ?_); simp -implicitDefEqProofs [hn, hn']) | (refine ard_call (dp haw ?_); simp -implicitDefEqProofs [hn, hn']) | fail)
      refine aw_ret (fin_ret ?_); simp -implicitDefEqProofs [FinP, resV, resT] <;> try rfl
  | false =>
    clear hDR
    rw [if_neg (by decide)] at hD
    cases pbb with
    | true =>
      obtain ⟨q1, q2, q3⟩ := hPR rfl
      clear hPR
      rw [if_pos rfl] at hP
      refine row_of Try.func3 rfl rfl (Nat.le_of_ble_eq_true rfl) ?_
      repeat' (first | refine aw_seq ?_ | refine aw_skip ?_ | refine aw_block ?_ | refine aw_exit ?_ | refine aw_cond rfl (fun _ => ?_) (fun hb => absurd hb (by decide)) | refine aw_cond rfl (fun hb => absurd hb (by decide)) (fun _ => ?_) | (refine aw_reg (fun K hK => ?_); simp -implicitDefEqProofs [hn, hn']) | (refine aw_drw mixd (fun K hK => ?_); simp -implicitDefEqProofs [hn, hn']) | refine hK _ ?_ | refine hK _ _ (by rfl) ?_ | (refine ar_call (cp hL ?_); simp -implicitDefEqProofs [hn, hn']) | (refine ard_call (dp hL ?_); simp -implicitDefEqProofs [hn, hn']) | (refine ar_call (cp hR ?_); simp -implicitDefEqProofs [hn, hn']) | (refine ard_call (dp hR ?_); simp -implicitDefEqProofs [hn, hn']) | (refine ar_call (cp hD ?_); simp -implicitDefEqProofs [hn, hn']) | (refine ard_call (dp hD ?_); simp -implicitDefEqProofs [hn, hn']) | (refine ar_call (cp hP ?_); simp -implicitDefEqProofs [hn, hn']) | (refine ard_call (dp hP ?_); simp -implicitDefEqProofs [hn, hn']) | (refine ar_call (cp q1 ?_); simp -implicitDefEqProofs [hn, hn']) | (refine ard_call (dp q1 ?_); simp -implicitDefEqProofs [hn, hn']) | (refine ar_call (cp q2 ?_); simp -implicitDefEqProofs [hn, hn']) | (refine ard_call (dp q2 ?_); simp -implicitDefEqProofs [hn, hn']) | (refine ar_call (cp q3 ?_); simp -implicitDefEqProofs [hn, hn']) | (refine ard_call (dp q3 ?_); simp -implicitDefEqProofs [hn, hn']) | (refine ar_call (cp hS ?_); simp -implicitDefEqProofs [hn, hn']) | (refine ard_call (dp hS ?_); simp -implicitDefEqProofs [hn, hn']) | (refine ar_call (cp haw ?_); simp -implicitDefEqProofs [hn, hn']) | (refine ard_call (dp haw ?_); simp -implicitDefEqProofs [hn, hn']) | fail)
      refine aw_ret (fin_ret ?_); simp -implicitDefEqProofs [FinP, resV, resT] <;> try rfl
    | false =>
      clear hPR
      rw [if_neg (by decide)] at hP
      refine row_of Try.func3 rfl rfl (Nat.le_of_ble_eq_true rfl) ?_
      repeat' (first | refine aw_seq ?_ | refine aw_skip ?_ | refine aw_block ?_ | refine aw_exit ?_ | refine aw_cond rfl (fun _ => ?_) (fun hb => absurd hb (by decide)) | refine aw_cond rfl (fun hb => absurd hb (by decide)) (fun _ => ?_) | (refine aw_reg (fun K hK => ?_); simp -implicitDefEqProofs [hn, hn']) | (refine aw_drw mixd (fun K hK => ?_); simp -implicitDefEqProofs [hn, hn']) | refine hK _ ?_ | refine hK _ _ (by rfl) ?_ | (refine ar_call (cp hL ?_); simp -implicitDefEqProofs [hn, hn']) | (refine ard_call (dp hL ?_); simp -implicitDefEqProofs [hn, hn']) | (refine ar_call (cp hR ?_); simp -implicitDefEqProofs [hn, hn']) | (refine ard_call (dp hR ?_); simp -implicitDefEqProofs [hn, hn']) | (refine ar_call (cp hD ?_); simp -implicitDefEqProofs [hn, hn']) | (refine ard_call (dp hD ?_); simp -implicitDefEqProofs [hn, hn']) | (refine ar_call (cp hP ?_); simp -implicitDefEqProofs [hn, hn']) | (refine ard_call (dp hP ?_); simp -implicitDefEqProofs [hn, hn']) | (refine ar_call (cp haw ?_); simp -implicitDefEqProofs [hn, hn']) | (refine ard_call (dp haw ?_); simp -implicitDefEqProofs [hn, hn']) | fail)
      refine aw_ret (fin_ret ?_); simp -implicitDefEqProofs [FinP, resV, resT] <;> try rfl
end Go.Proofs.Ythmdllhhmhbhbaa.am
end
section
namespace Go.Proofs.Ythmdllhhmhbhbaa.am
open Go.ChangeShapes Go.WideShapes Go.ChangeAt Go.RowKit
open vt
set_option linter.unusedVariables false
set_option linter.unusedSimpArgs false
theorem td_u64 : td Try.prog 69 = some ⟨false, 1, 8, [.lit (.int .u64 0)], [], (.int .u64)⟩ := Eq.trans (by kernel_rfl) (Eq.refl _)
theorem td_uint : td Try.prog 58 = some ⟨false, 1, 8, [.lit (.int .u64 0)], [], (.int .u64)⟩ := Eq.trans (by kernel_rfl) (Eq.refl _)
attribute [simp] td_u64 td_uint
abbrev U64 (z : Int) : PV := .lit (.int .u64 z)
abbrev vU64 (z : Int) : AV := .v (.c (.pv (U64 z)))
set_option maxRecDepth 100000 in
set_option maxHeartbeats 4000000 in
theorem mul64_row (n : Nat) (hn : n ≤ 1000000) : Row Try.prog 40 [vU64 1, vU64 (n : Nat)] [] (.tup [.c (.pv (U64 0)), .c (.pv (U64 (n : Nat)))]) [] := by
  have a1 : IntKind.u64.wrap ((1 % 2 ^ IntKind.u64.bits &&& 4294967295 % 2 ^ IntKind.u64.bits : Nat) : Int) = 1 := by decide
  have a2 : Int.fdiv 1 (2 ^ min 32 IntKind.u64.bits) = 0 := by decide
  have a3 : ((n : Nat) : Int).fdiv (2 ^ min 32 IntKind.u64.bits) = 0 := by
    have : (2 : Int) ^ min 32 IntKind.u64.bits = 4294967296 := by decide
    rw [this, Int.fdiv_eq_ediv_of_nonneg _ (by decide)]
    exact Int.ediv_eq_zero_of_lt (by omega) (by omega)
  have a5 : IntKind.u64.wrap ((n : Nat) : Int) = (n : Nat) := IntWalk.u64_in _ (by omega)
  have a4 : IntKind.u64.wrap ((n % 2 ^ IntKind.u64.bits &&& 4294967295 % 2 ^ IntKind.u64.bits : Nat) : Int) = (n : Nat) := by
    have e1 : 4294967295 % 2 ^ IntKind.u64.bits = 2 ^ 32 - 1 := by decide
    have e2 : n % 2 ^ IntKind.u64.bits = n := Nat.mod_eq_of_lt (by have : (2 : Nat) ^ IntKind.u64.bits = 18446744073709551616 := by decide
                                                                   omega)
    rw [e1, e2, Nat.and_two_pow_sub_one_eq_mod, Nat.mod_eq_of_lt (by omega)]
    exact a5
  have a6 : IntKind.u64.wrap 0 = 0 := by decide
  have a7 : Int.fdiv 0 (2 ^ min 32 IntKind.u64.bits) = 0 := by decide
  have a8 : IntKind.u64.wrap ((0 % 2 ^ IntKind.u64.bits &&& 4294967295 % 2 ^ IntKind.u64.bits : Nat) : Int) = 0 := by decide
  refine row_of Try.func40 rfl rfl (Nat.le_of_ble_eq_true rfl) ?_
  repeat (first | refine aw_seq ?_ | refine aw_skip ?_ | refine aw_block ?_ | refine aw_exit ?_ | refine aw_cond rfl (fun _ => ?_) (fun hb => absurd hb (by decide)) | refine aw_cond rfl (fun hb => absurd hb (by decide)) (fun _ => ?_) | (refine aw_reg (fun K hK => ?_); simp -implicitDefEqProofs [a1, a2, a3, a4, a5, a6, a7, a8]; refine hK _ ?_) | (refine aw_drw mixd (fun K hK => ?_); simp -implicitDefEqProofs [a1, a2, a3, a4, a5, a6, a7, a8]; refine hK _ _ (by rfl) ?_) | fail)
  refine aw_ret (fin_ret ?_); simp -implicitDefEqProofs [FinP, resV, resT] <;> try rfl
set_option maxRecDepth 100000 in
set_option maxHeartbeats 4000000 in
theorem mul_row (n : Nat) (hn : n ≤ 1000000) : Row Try.prog 31 [vU64 1, vU64 (n : Nat)] [] (.tup [.c (.pv (U64 0)), .c (.pv (U64 (n : Nat)))]) [] := by
  have h := mul64_row n hn
  refine row_of Try.func31 rfl rfl (Nat.le_of_ble_eq_true rfl) ?_
  repeat' (first | refine aw_seq ?_ | refine aw_skip ?_ | refine aw_block ?_ | refine aw_exit ?_ | refine aw_cond rfl (fun _ => ?_) (fun hb => absurd hb (by decide)) | refine aw_cond rfl (fun hb => absurd hb (by decide)) (fun _ => ?_) | (refine aw_reg (fun K hK => ?_); simp -implicitDefEqProofs) | (refine aw_drw mixd (fun K hK => ?_); simp -implicitDefEqProofs) | refine hK _ ?_ | refine hK _ _ (by rfl) ?_ | (refine ar_call (cp h ?_); simp -implicitDefEqProofs) | (refine ard_call (dp h ?_); simp -implicitDefEqProofs) | fail)
  refine aw_ret (fin_ret ?_); simp -implicitDefEqProofs [FinP, resV, resT] <;> try rfl
end Go.Proofs.Ythmdllhhmhbhbaa.am
end
section
namespace Go.Proofs.Ythmdllhhmhbhbaa.am
open Go.ChangeShapes Go.WideShapes Go.ChangeAt Go.RowKit
open vt
set_option linter.unusedVariables false
set_option linter.unusedSimpArgs false
theorem td_str : td Try.prog 9 = some ⟨false, 1, 16, [.lit (.string ⟨#[]⟩)], [], .string⟩ := Eq.trans (by kernel_rfl) (Eq.refl _)
attribute [simp] td_str
def cR (n m : Nat) : List (List PV) := List.replicate m [I (-1)] ++ List.replicate (n - m) [I 0]
theorem cR_len {n m : Nat} (h : m ≤ n) : (cR n m).length = n := by unfold cR; simp; omega
theorem cR_take {n m : Nat} : (cR n m).take m = List.replicate m [I (-1)] := by unfold cR; rw [List.take_append_of_le_length (by simp), List.take_of_length_le (by simp)]
theorem cR_seg {n m : Nat} (h : m ≤ n) : setSeg (cR n m) m ((List.replicate m [I (-1)]).take (n - m)) = cR n (m + min m (n - m)) := by
  obtain ⟨k, hk⟩ : ∃ k, min m (n - m) = k := ⟨_, rfl⟩
  have hkn : k ≤ n - m := by omega
  unfold setSeg
  rw [cR_take, List.take_replicate, List.length_replicate, Nat.min_comm (n - m) m, hk]
  unfold cR
  rw [List.replicate_append_replicate, List.drop_append, List.drop_replicate, List.drop_replicate, List.length_replicate, show m - (m + k) = 0 by omega, show m + k - m = k by omega, show n - (m + k) = n - m - k by omega]
  rfl
theorem cR_zero (n : Nat) : List.replicate n [I 0] = cR n 0 := by unfold cR; simp
theorem cR_one (n : Nat) : [[I (-1)]].take n ++ (cR n 0).drop (min n 1) = cR n (min 1 n) := by
  unfold cR
  cases n with
  | zero => simp
  | succ k => simp
theorem cR_seg2 {n m : Nat} (h : m ≤ n) : List.replicate m [I (-1)] ++ (List.replicate (min (n - m) m) [I (-1)] ++ (cR n m).drop (m + min (n - m) m)) = cR n (m + min m (n - m)) := by
  rw [← cR_seg h]
  unfold setSeg
  rw [cR_take, List.take_replicate, List.length_replicate, List.append_assoc]
set_option maxRecDepth 100000 in
set_option maxHeartbeats 4000000 in
theorem repeat_row (n : Nat) (hn : n ≤ 1000000) : Row Try.prog 23 [.v (.c (.pv (.sl 1 [[I (-1)]]))), vI (n : Nat)] [] (.v (.c (.arr 0 1 n))) [some (.arr 3 1 (List.replicate n [I (-1)]))] := by
  have hm := mul_row n hn
  have a1 : IntKind.u64.wrap 1 = 1 := by decide
  have a2 : IntKind.u64.wrap ((n : Nat) : Int) = (n : Nat) := IntWalk.u64_in _ (by omega)
  have a3 : IntKind.i64.wrap ((n : Nat) : Int) = (n : Nat) := i64i _ (by omega) (by omega)
  have a0 : ¬ ((n : Nat) : Int) < 0 := by omega
  have a4 : ¬ (9223372036854775807 : Int) < (n : Nat) := by omega
  have b1 : n * 8 ≤ 140737488355328 := by omega
  have b2 : n ≤ 140737488355328 := by omega
  have b3 : ((n : Nat) : Int) * 8 ≤ 140737488355328 := by omega
  have b4 : ((n : Nat) : Int) ≤ 140737488355328 := by omega
  have hz := cR_zero n
  have ho := cR_one n
  have hl := cR_len (Nat.zero_le n)
  refine row_of Try.func23 rfl rfl (Nat.le_of_ble_eq_true rfl) ?_
  repeat' (first | refine aw_seq ?_ | refine aw_skip ?_ | refine aw_block ?_ | refine aw_exit ?_ | refine aw_cond rfl (fun _ => ?_) (fun hb => absurd hb (by decide)) | refine aw_cond rfl (fun hb => absurd hb (by decide)) (fun _ => ?_) | (refine aw_reg (fun K hK => ?_); simp -implicitDefEqProofs [a0, a1, a2, a3, a4, b3, b4, hz, ho, hl]) | (refine aw_drw mixd (fun K hK => ?_); simp -implicitDefEqProofs [a0, a1, a2, a3, a4, b3, b4, hz, ho, hl]) | refine hK _ ?_ | refine hK _ _ (by rfl) ?_ | (refine ar_call (cp hm ?_); simp -implicitDefEqProofs [a0, a1, a2, a3, a4, b3, b4, hz, ho, hl]) | (refine ard_call (dp hm ?_); simp -implicitDefEqProofs [a0, a1, a2, a3, a4, b3, b4, hz, ho, hl]) | fail)
  clear hm hz ho hl
  refine aw_lp (ι := Nat) (fun m => mkSt [(7, .v (.c (.arr 0 1 n))), (8, vI (m : Nat))] [some (.arr 3 1 (cR n m))]) (fun m => m ≤ n ∧ (0 < n → 0 < m)) (fun m => n - m) (min 1 n) ⟨by omega, by omega⟩ (cov_intro [29] (by simp -implicitDefEqProofs [cR_one]) (by simp -implicitDefEqProofs [cR_one]) (by decide) rfl (by simp)) (fun Z hI m hk => ?_)
  obtain ⟨hk, hp⟩ := hk
  by_cases hml : m < n; rotate_left
  · have : m = n := by omega
    subst this
    have e : cR m m = List.replicate m [I (-1)] := by unfold cR; simp
    rw [e]
    repeat (first | refine aw_seq ?_ | refine aw_skip ?_ | refine aw_block ?_ | refine aw_exit ?_ | refine aw_cond rfl (fun _ => ?_) (fun hb => absurd hb (by decide)) | refine aw_cond rfl (fun hb => absurd hb (by decide)) (fun _ => ?_) | (refine aw_reg (fun K hK => ?_); simp -implicitDefEqProofs; refine hK _ ?_) | (refine aw_drw mixd (fun K hK => ?_); simp -implicitDefEqProofs; refine hK _ _ (by rfl) ?_) | fail)
    refine aw_ret (fin_g [0] ?_); simp -implicitDefEqProofs [FinG, resV, resT] <;> try rfl
  have hlen := cR_len (n := n) (m := m) hk
  have htk := cR_take (n := n) (m := m)
  have hsg := cR_seg2 (n := n) (m := m) hk
  have w2 : IntKind.i64.wrap ((m : Nat) + ((min m (n - m) : Nat) : Int)) = (m : Nat) + ((min m (n - m) : Nat) : Int) := i64i _ (by omega) (by omega)
  obtain ⟨C, hC⟩ : ∃ C, cR n m = C := ⟨_, rfl⟩
  rw [hC] at hlen htk hsg ⊢
  repeat (first | refine aw_seq ?_ | refine aw_skip ?_ | refine aw_block ?_ | refine aw_exit ?_ | refine aw_cond rfl (fun _ => ?_) (fun hb => absurd hb (by decide)) | refine aw_cond rfl (fun hb => absurd hb (by decide)) (fun _ => ?_) | (refine aw_reg (fun K hK => ?_); simp -implicitDefEqProofs [hml, hk, hlen, htk, hsg, w2]; refine hK _ ?_) | (refine aw_drw mixd (fun K hK => ?_); simp -implicitDefEqProofs [hml, hk, hlen, htk, hsg, w2]; refine hK _ _ (by rfl) ?_) | fail)
  refine ⟨m + min m (n - m), ⟨by omega, fun _ => by have := hp (by omega); omega⟩, (by dsimp only; have := hp (by omega); omega), ?_⟩
  rw [hI]; exact cov_intro [0] (by simp -implicitDefEqProofs) (by simp -implicitDefEqProofs) (by decide) rfl (by simp)
end Go.Proofs.Ythmdllhhmhbhbaa.am
end
