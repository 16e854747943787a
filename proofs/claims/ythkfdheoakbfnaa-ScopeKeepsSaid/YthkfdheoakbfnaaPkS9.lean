import Derived.Test.YthkfdheoakbfnaaProg
import Derived.StillTailTactics
import Derived.Deep.CutRange
import Derived.Test.YthkfdheoakbfnaaPkS8
import Derived.Test.YthkfdheoakbfnaaPkS2
import Derived.Test.YthkfdheoakbfnaaPkS7
import Derived.Test.YthkfdheoakbfnaaPkS6
section
namespace Go.Proofs.Ythkfdheoakbfnaa.lx
open Go.ChangeShapes Go.WideShapes Go.ChangeAt Go.RowKit
open bs
set_option linter.unusedVariables false
theorem rletter_any (c : Int) (w : World) : Calls Try.prog 77 #[.int .u8 c] w fun e w' => e = .returned (.bool (isL c)) ∧ w' = w := by
  by_cases hp : isL c = true
  · have hc := of_decide_eq_true hp
    by_cases h1 : (65 : Int) ≤ c <;> by_cases h2 : c ≤ 90 <;> by_cases h3 : (97 : Int) ≤ c <;> by_cases h4 : c ≤ 122 <;> by_cases h5 : c = 95 <;> (first | omega |
      (rw [hp]
       have H := Lib.hid hc; clear hc hp
       go_enter Try.func77, Try.ntmps77; go_wp2; go_ret; have hc := H.out; simp [h1, h2, h3, h4, h5]))
  · have hf : isL c = false := by simpa using hp
    have hc := of_decide_eq_false hf
    by_cases h1 : (65 : Int) ≤ c <;> by_cases h2 : c ≤ 90 <;> by_cases h3 : (97 : Int) ≤ c <;> by_cases h4 : c ≤ 122 <;> by_cases h5 : c = 95 <;> (first | omega |
      (rw [hf]
       have H := Lib.hid hc; clear hc hp hf
       go_enter Try.func77, Try.ntmps77; go_wp2; go_ret; have hc := H.out; simp [h1, h2, h3, h4, h5]))
theorem rdigit_any (c : Int) (w : World) : Calls Try.prog 78 #[.int .u8 c] w fun e w' => e = .returned (.bool (isD c)) ∧ w' = w := by
  unfold isD
  by_cases h1 : (48 : Int) ≤ c <;> by_cases h2 : c ≤ 57 <;>
    (go_enter Try.func78, Try.ntmps78; go_wp2; go_ret; simp [h1, h2])
theorem rblank_any (c : Int) (w : World) : Calls Try.prog 75 #[.int .u8 c] w fun e w' => e = .returned (.bool (isB c)) ∧ w' = w := by
  unfold isB
  by_cases h1 : c = 32 <;> by_cases h2 : c = 9 <;> by_cases h3 : c = 10 <;> by_cases h4 : c = 13 <;>
    (go_enter Try.func75, Try.ntmps75; go_wp2; go_ret; simp [h1, h2, h3, h4])
set_option maxRecDepth 100000 in
set_option maxHeartbeats 1000000 in
theorem begins_any (s : ByteArray) (i : Nat) (v : ByteArray) (w : World) (hi : i ≤ s.size) (hm : s.size ≤ 100000) (hv : v.size ≤ 100) :
    Calls Try.prog 76 #[.string s, .int .i64 i, .string v] w fun e w' => e = .returned (.bool (at' s i v)) ∧ w' = w := by
  by_cases h : i + v.size ≤ s.size
  · have d1 : decide ((v.size : Int) ≤ (s.size : Int) - i) = true := decide_eq_true (by omega)
    go_enter Try.func76, Try.ntmps76
    go_wp2
    go_ret
    refine ⟨?_, by trivial⟩
    show Ending.returned (.bool ((s.extract i (i + v.size)).toList == v.toList)) = _
    rw [text_eq]
    congr 2
    unfold at'
    rw [decide_eq_decide]
    exact ⟨fun e => ⟨h, e⟩, fun e => e.2⟩
  · have d1 : decide ((v.size : Int) ≤ (s.size : Int) - i) = false := decide_eq_false (by omega)
    go_enter Try.func76, Try.ntmps76
    go_wp2
    go_ret
    refine ⟨?_, by trivial⟩
    have e : at' s i v = false := decide_eq_false (fun x => h x.1)
    rw [e]
    rfl
theorem cc_eq' : (⟨#[47, 47]⟩ : ByteArray) = cc := rfl
set_option maxRecDepth 100000 in
set_option maxHeartbeats 2000000 in
theorem rnext_any (s : ByteArray) (i : Nat) (w : World) (hi : i ≤ s.size) (hm : s.size ≤ 100000) :
    Calls Try.prog 39 #[.string s, .int .i64 i] w fun e w' => e = .returned (.int .i64 (nx s i)) ∧ w' = w := by
  go_enter Try.func39, Try.ntmps39
  go_wp2
  go_loopw [1] (fun j wr => ∃ k : Nat, k ≤ s.size ∧ j = .int .i64 k ∧ wr = w ∧ Hid (nx s k = nx s i)) (fun j _ => s.size - (intOf j).toNat)
  case atStart => exact ⟨i, hi, rfl, rfl, Lib.hid rfl⟩
  case round =>
    obtain ⟨k, hk, rfl, rfl, HN⟩ := hrel
    by_cases hlt : k < s.size
    · go_wp2_with fail
      refine (rblank_any _ _).mono ?_
      rintro e w1 ⟨rfl, rfl⟩
      rw [b_at s k hlt]
      have HB := Lib.hid (b_at s k hlt)
      rcases Bool.eq_false_or_eq_true (isB (B s k)) with hb | hb
      · have HBk := Lib.hid hb
        rw [hb]
        clear hb
        go_wp2
        go_roundw
        case rel => exact ⟨k + 1, by omega, by go_num, by trivial, Lib.hid ((nx_blank hlt HBk.out).symm.trans HN.out)⟩
        case measure => simp [intOf]; omega
      · have HBk := Lib.hid hb
        rw [hb]
        clear hb
        go_wp2_with fail
        refine (begins_any s k ⟨#[47, 47]⟩ _ hk hm (by decide)).mono ?_
        rintro e w2 ⟨rfl, rfl⟩
        rw [cc_eq']
        rcases Bool.eq_false_or_eq_true (at' s k cc) with hc | hc
        · have HC := Lib.hid hc
          rw [hc]
          have h1 := cc_run HC.out
          have h2 := run_bd isC s k hk
          have H3 := Lib.hid ((nx_comment hlt HBk.out HC.out).symm.trans HN.out)
          clear hc
          obtain ⟨Wo, hWo⟩ : ∃ Wo, Wo = w2 := ⟨_, rfl⟩
          subst hWo
          go_wp2
          go_loopw [1] (fun j V => ∃ q : Nat, k ≤ q ∧ q ≤ s.size ∧ j = .int .i64 q ∧ V = Wo ∧ Hid (run isC s q = run isC s k)) (fun j _ => s.size - (intOf j).toNat)
          case atStart => exact ⟨k, by omega, hk, rfl, rfl, Lib.hid rfl⟩
          case round =>
            obtain ⟨q, hkq, hq, rfl, rfl, HR⟩ := hrel
            by_cases hql : q < s.size
            · have HBq := Lib.hid (b_at s q hql)
              rcases Bool.eq_false_or_eq_true (isC (B s q)) with hp | hp
              · have HP := Lib.hid hp
                have hne : B s q ≠ 10 := of_decide_eq_true hp
                have d1 : (((s[q]).toNat : Int) != 10) = true := by rw [b_at s q hql, bne_iff_ne]; exact hne
                clear hp hne
                go_wp2
                go_roundw
                case rel => exact ⟨q + 1, by omega, by omega, by go_num, by trivial, Lib.hid ((run_yes hql HP.out).symm.trans HR.out)⟩
                case measure => simp [intOf]; omega
              · have HP := Lib.hid hp
                have hne : B s q = 10 := Decidable.not_not.1 (of_decide_eq_false hp)
                have d1 : (((s[q]).toNat : Int) != 10) = false := by rw [b_at s q hql, bne_eq_false_iff_eq]; exact hne
                have hr := (run_no HP.out).symm.trans HR.out
                have HRq := Lib.hid hr
                clear hp hne hr
                rw [← HRq.out] at h1 H3
                go_wp2
                go_roundw
                case rel => exact ⟨q, by omega, rfl, by trivial, H3⟩
                case measure => simp [intOf]; omega
            · obtain rfl : q = s.size := by omega
              have HRq := Lib.hid ((run_end (p := isC) (Nat.le_refl s.size)).symm.trans HR.out)
              rw [← HRq.out] at h1 H3
              go_wp2
              go_roundw
              case rel => exact ⟨s.size, by omega, rfl, by trivial, H3⟩
              case measure => simp [intOf]; omega
        · have hst := nx_stop HBk.out hc
          rw [hc]
          have HST := Lib.hid (hst.symm.trans HN.out)
          clear hst hc
          go_wp2
          go_ret
          exact ⟨by rw [← HST.out]; rfl, by trivial⟩
    · obtain rfl : k = s.size := by omega
      have HE := Lib.hid ((nx_end (Nat.le_refl s.size)).symm.trans HN.out)
      go_wp2
      go_ret
      exact ⟨by rw [← HE.out]; rfl, by trivial⟩
end Go.Proofs.Ythkfdheoakbfnaa.lx
namespace Go.Proofs.Ythkfdheoakbfnaa.lx
open Go.ChangeShapes Go.WideShapes Go.ChangeAt Go.RowKit
open bs
set_option linter.unusedVariables false
theorem numV_drop {v : ByteArray} {k : Nat} (h : k < v.size) (acc : Int) : numV acc ((txt v).drop k) = if (9223372036854775807 - (B v k - 48)) / 10 < acc then none else numV (acc * 10 + (B v k - 48)) ((txt v).drop (k + 1)) := by
  have h3 : k < (txt v).length := by rw [txt_len]; exact h
  rw [List.drop_eq_getElem_cons h3, numV]
  have h4 : (txt v)[k] = B v k := by unfold B; rw [List.getD_eq_getElem?_getD, List.getElem?_eq_getElem h3]; rfl
  rw [h4]
theorem dig_at {v : ByteArray} (hd : Dig v.data.toList) {k : Nat} (h : k < v.size) : 48 ≤ B v k ∧ B v k ≤ 57 := by
  have h' : k < v.data.toList.length := by rw [Array.length_toList]; exact h
  have h2 := hd _ (List.getElem_mem h')
  have h3 : B v k = ((v.data.toList[k]).toNat : Int) := by
    unfold B txt
    rw [List.getD_eq_getElem?_getD, List.getElem?_map, List.getElem?_eq_getElem h']
    rfl
  omega
def optI (o : Option Int) : Int := o.getD 0
set_option maxRecDepth 100000 in
set_option maxHeartbeats 2000000 in
theorem rnumber_any (v : ByteArray) (w : World) (hd : Dig v.data.toList) (hne : 0 < v.size) (hm : v.size ≤ 100000) :
    Calls Try.prog 81 #[.string v] w fun e w' => e = .returned (.tuple #[.int .i64 (optI (num v)), .bool (num v).isSome]) ∧ w' = w := by
  have e0 := b_at v 0 hne
  have HD := Lib.hid hd
  clear hd
  by_cases h0 : 1 < v.size ∧ B v 0 = 48
  · have d1 : decide ((1 : Int) < v.size) = true := decide_eq_true (by omega)
    have d2 : (((v[0]).toNat : Int) == 48) = true := by rw [e0, h0.2]; rfl
    have d0 : ((v.size : Int) == 0) = false := by rw [beq_eq_false_iff_ne]; omega
    have HN : Hid (num v = none) := Lib.hid (by unfold num; rw [if_pos (.inr h0)])
    clear h0 e0
    go_enter Try.func81, Try.ntmps81
    go_wp2
    go_ret2
    rw [HN.out]
    exact ⟨rfl, by trivial⟩
  · have HN : Hid (num v = numV 0 (txt v)) := Lib.hid (by unfold num; rw [if_neg (by rintro (h | h); omega; exact h0 h)])
    have d0 : ((v.size : Int) == 0) = false := by rw [beq_eq_false_iff_ne]; omega
    have hor : (decide ((1 : Int) < v.size) = true ∧ (((v[0]).toNat : Int) == 48) = false) ∨ decide ((1 : Int) < v.size) = false := by
      by_cases h1 : 1 < v.size
      · refine .inl ⟨decide_eq_true (by omega), ?_⟩
        rw [e0, beq_eq_false_iff_ne]
        exact fun h => h0 ⟨h1, h⟩
      · exact .inr (decide_eq_false (by omega))
    clear h0 e0
    rcases hor with ⟨d1, d2⟩ | d1
    all_goals
      go_enter Try.func81, Try.ntmps81
      go_wp2
      go_loopw [4, 5, 6] (fun o j _ wr => ∃ (k : Nat) (acc : Int), k ≤ v.size ∧ j = .int .i64 k ∧ o = .int .i64 acc ∧ wr = w ∧ 0 ≤ acc ∧ acc ≤ 9223372036854775807 ∧ Hid (numV acc ((txt v).drop k) = numV 0 (txt v))) (fun _ j _ _ => v.size - (intOf j).toNat)
      case atStart => exact ⟨0, 0, by omega, rfl, rfl, rfl, by omega, by omega, Lib.hid (by rw [List.drop_zero])⟩
      case round =>
        obtain ⟨k, acc, hk, rfl, rfl, rfl, ha0, ha1, HV⟩ := hrel
        by_cases hlt : k < v.size
        · have hb := dig_at HD.out hlt
          have HB := Lib.hid (b_at v k hlt)
          have HS := Lib.hid (numV_drop hlt acc)
          have hm8 : (((v[k]).toNat : Int) - 48) % 256 = B v k - 48 := by rw [b_at v k hlt]; omega
          have HM8 := Lib.hid hm8
          by_cases hov : (9223372036854775807 - (B v k - 48)) / 10 < acc
          · have d3 : decide ((9223372036854775807 - (((v[k]).toNat : Int) - 48) % 256) / 10 < acc) = true := by rw [hm8]; exact decide_eq_true hov
            have HE : Hid (num v = none) := Lib.hid (by rw [HN.out, ← HV.out, HS.out, if_pos hov])
            clear hov hm8
            go_wp2
            go_ret2
            rw [HE.out]
            exact ⟨rfl, by trivial⟩
          · have d3 : decide ((9223372036854775807 - (((v[k]).toNat : Int) - 48) % 256) / 10 < acc) = false := by rw [hm8]; exact decide_eq_false hov
            have HE : Hid (numV (acc * 10 + (B v k - 48)) ((txt v).drop (k + 1)) = numV 0 (txt v)) := Lib.hid (by rw [← HV.out, HS.out, if_neg hov])
            have hup : acc * 10 + (B v k - 48) ≤ 9223372036854775807 := by omega
            clear hov hm8
            go_wp2
            go_roundw
            case rel => exact ⟨k + 1, acc * 10 + (B v k - 48), by omega, by go_num, by rw [HM8.out]; congr 1; unfold wrap64; omega, by trivial, by omega, hup, HE⟩
            case measure => simp [intOf]; omega
        · obtain rfl : k = v.size := by omega
          have HE : Hid (num v = some acc) := Lib.hid (by
            rw [HN.out, ← HV.out, List.drop_eq_nil_of_le (by rw [txt_len]; exact Nat.le_refl _)]
            rfl)
          go_wp2
          go_ret2
          rw [HE.out]
          exact ⟨rfl, by trivial⟩
abbrev SS (w : World) (a : Option Addr) (n c : Nat) (L : List ByteArray) : Prop := Recs 1 (fun w b o (x : ByteArray) => w.cell? ⟨b, o, none⟩ = some (.string x)) w a n c L
theorem ss_at {w : World} {a n c} {L : List ByteArray} (h : SS w a n c L) {k : Nat} (hk : k < n) : ∃ b off x, a = some ⟨b, off, none⟩ ∧ b < w.heap.size ∧ L[k]? = some x ∧ w.cell? ⟨b, off + k, none⟩ = some (.string x) := by
  have hl := h.len
  rcases h.at' with h0 | ⟨b, off, ha, hb, hc⟩
  · omega
  · have hx : L[k]? = some (L[k]'(by omega)) := List.getElem?_eq_getElem _
    have := hc k _ hx
    rw [Nat.mul_one] at this
    exact ⟨b, off, _, ha, hb, hx, this⟩
theorem ss_new (w : World) (L : List ByteArray) (n : Nat) (cs : Array Value) (hcs : cs = (L.map Value.string).toArray) (hn : L.length = n) (hm : n ≤ 1000) (e : TypeId) : SS (w.alloc (.cells cs e)) (some ⟨w.heap.size, 0, none⟩) n n L := by
  subst hcs
  refine ⟨hn, Nat.le_refl _, by omega, by simp, .inr ⟨_, 0, rfl, by rw [size_alloc]; omega, fun i x hi => ?_⟩⟩
  rw [cell_new w _ e _ _ rfl, Nat.zero_add, Nat.mul_one, List.getElem?_toArray, List.getElem?_map, hi]
  rfl
def wordB : List ByteArray := wordL.map mkB
def signB : List ByteArray := signL.map mkB
theorem words_any (w : World) : Calls Try.prog 80 #[] w fun e w' => e = .returned (.slice (some ⟨w.heap.size, 0, none⟩) 20 20) ∧ SS w' (some ⟨w.heap.size, 0, none⟩) 20 20 wordB ∧ Below w.heap.size w w' := by
  go_enter Try.func80, Try.ntmps80
  go_wp2
  go_ret
  exact ⟨rfl, ss_new w wordB 20 _ rfl rfl (by omega) _, below_alloc _ _⟩
theorem signs_any (w : World) : Calls Try.prog 82 #[] w fun e w' => e = .returned (.slice (some ⟨w.heap.size, 0, none⟩) 26 26) ∧ SS w' (some ⟨w.heap.size, 0, none⟩) 26 26 signB ∧ Below w.heap.size w w' := by
  go_enter Try.func82, Try.ntmps82
  go_wp2
  go_ret
  exact ⟨rfl, ss_new w signB 26 _ rfl rfl (by omega) _, below_alloc _ _⟩
theorem isw_eq (v : ByteArray) : isW v = wordB.any (fun x => x.toList == v.toList) := by
  unfold isW wordB
  rw [List.any_map]
  congr 1
  funext l
  show (v.toList == l) = ((mkB l).toList == v.toList)
  have e : (mkB l).toList = l := by rw [ByteArray.toList_eq]; rfl
  rw [e]
  by_cases h : v.toList = l
  · rw [h]
  · rw [beq_eq_false_iff_ne.2 h, beq_eq_false_iff_ne.2 (fun x => h x.symm)]
set_option maxRecDepth 100000 in
set_option maxHeartbeats 1000000 in
theorem among_any (v : ByteArray) (a : Option Addr) (n c : Nat) (L : List ByteArray) (w : World) (h : SS w a n c L) :
    Calls Try.prog 79 #[.string v, .slice a n c] w fun e w' => e = .returned (.bool (L.any (fun x => x.toList == v.toList))) ∧ w' = w := by
  have hcap := h.cap; have hmost := h.most; have hlen := h.len
  have H := Lib.hid h; have HLEN := Lib.hid hlen
  clear h hlen
  go_enter Try.func79, Try.ntmps79
  go_wp2
  go_loopw [5] (fun j wr => ∃ k : Nat, k ≤ n ∧ j = .int .i64 k ∧ wr = w ∧ Hid ((L.drop k).any (fun x => x.toList == v.toList) = L.any (fun x => x.toList == v.toList))) (fun j _ => n - (intOf j).toNat)
  case atStart => exact ⟨0, by omega, rfl, rfl, Lib.hid (by rw [List.drop_zero])⟩
  case round =>
    obtain ⟨k, hk, rfl, rfl, HA⟩ := hrel
    by_cases hlt : k < n
    · obtain ⟨b, off, x, rfl, hb, hx, hc⟩ := ss_at H.out hlt
      have hxk := (List.getElem?_eq_some_iff.1 hx)
      obtain ⟨hkl, hxe⟩ := hxk
      have hdr : (L.drop k).any (fun x => x.toList == v.toList) = ((x.toList == v.toList) || (L.drop (k + 1)).any (fun x => x.toList == v.toList)) := by
        rw [List.drop_eq_getElem_cons hkl, hxe, List.any_cons]
      have HDR := Lib.hid (hdr.symm.trans HA.out)
      clear hdr hx hxe hkl
      rcases Bool.eq_false_or_eq_true (x.toList == v.toList) with he | he
      · have HE : Hid (L.any (fun x => x.toList == v.toList) = true) := Lib.hid (by rw [← HDR.out, he]; rfl)
        go_wp2
        go_ret
        rw [HE.out]
        exact ⟨rfl, by trivial⟩
      · have HE : Hid ((L.drop (k + 1)).any (fun x => x.toList == v.toList) = L.any (fun x => x.toList == v.toList)) := Lib.hid (by rw [← HDR.out, he, Bool.false_or])
        go_wp2
        go_roundw
        case rel => exact ⟨k + 1, by omega, by go_num, by trivial, HE⟩
        case measure => simp [intOf]; omega
    · have HE : Hid (L.any (fun x => x.toList == v.toList) = false) := Lib.hid (by
        rw [← HA.out, List.drop_eq_nil_of_le (by rw [HLEN.out]; omega)]
        rfl)
      go_wp2
      go_ret
      rw [HE.out]
      exact ⟨rfl, by trivial⟩
end Go.Proofs.Ythkfdheoakbfnaa.lx
namespace Go.Proofs.Ythkfdheoakbfnaa.lx
open Go.ChangeShapes Go.WideShapes Go.ChangeAt Go.RowKit
open bs
set_option linter.unusedVariables false
theorem slice_txt2 (s : ByteArray) (i j : Nat) (h1 : i ≤ j) (h : j ≤ s.size) (hm : s.size ≤ 100000) (W : World) : (Instr.sliceAt 9 (.string s) (some (.int .i64 i)) (some (.int .i64 j)) none).run Try.prog W = .ok (.string (s.extract i j)) W := by
  have e1 : ¬ (i : Int) < 0 := by omega
  have e2 : ¬ (j : Int) < 0 := by omega
  have e6 : ¬ (s.size : Int) < (j : Int) := by omega
  simp [Instr.sliceAt, Instr.slice, Instr.sliceBounds, Instr.sliceBound, asIntOf, Try.underlying9, go_sem, h1, h, e1, e2, e6]
theorem find_first {α : Type} {p : α → Bool} {L : List α} {k : Nat} {x : α} (h : ∀ y ∈ L.take k, p y = false) (hx : L[k]? = some x) (hp : p x = true) : L.find? p = some x := by
  obtain ⟨hk, he⟩ := List.getElem?_eq_some_iff.1 hx
  have e : L = L.take k ++ x :: L.drop (k + 1) := by
    rw [← he, ← List.drop_eq_getElem_cons hk, List.take_append_drop]
  rw [e, List.find?_append, List.find?_eq_none.2 (fun y hy => by rw [h y hy]; decide), Option.none_or, List.find?_cons_of_pos hp]
theorem sg_found {s : ByteArray} {i : Nat} (hi : i < s.size) {k : Nat} {l : List UInt8} (h : ∀ y ∈ signL.take k, at' s i (mkB y) = false) (hx : signL[k]? = some l) (hp : at' s i (mkB l) = true) : ¬ sgN s i = 0 ∧ mkB l = s.extract i (i + sgN s i) ∧ (mkB l).size = sgN s i := by
  have h1 := find_first (p := fun l => at' s i (mkB l)) h hx hp
  rw [sg_find hi] at h1
  by_cases h0 : sgN s i = 0
  · rw [if_pos h0] at h1; cases h1
  · rw [if_neg h0] at h1
    have h2 := Option.some.inj h1
    have h3 : mkB l = s.extract i (i + sgN s i) := by rw [← h2]; rfl
    refine ⟨h0, h3, ?_⟩
    rw [h3, size_cut s i _ (by omega) (sg_le hi)]
    omega
theorem sg_not {s : ByteArray} {i : Nat} (hi : i < s.size) (h : ∀ y ∈ signL, at' s i (mkB y) = false) : sgN s i = 0 := by
  have h1 : signL.find? (fun l => at' s i (mkB l)) = none := List.find?_eq_none.2 (fun y hy => by rw [h y hy]; decide)
  rw [sg_find hi] at h1
  by_cases h0 : sgN s i = 0
  · exact h0
  · rw [if_neg h0] at h1; cases h1
set_option maxRecDepth 100000 in
set_option maxHeartbeats 8000000 in
theorem rone_any (s : ByteArray) (i : Nat) (w : World) (hi : i < s.size) (hm : s.size ≤ 100000) :
    Calls Try.prog 40 #[.string s, .int .i64 i] w (TP (on s i) w) := by
  have HW := Lib.hid (below_alloc w (.cells #[.int .i64 0, .int .i64 0, .string ⟨#[]⟩, .int .i64 0, .int .i64 0] 37))
  have HK : Hid (KB (w.alloc (.cells #[.int .i64 0, .int .i64 0, .string ⟨#[]⟩, .int .i64 0, .int .i64 0] 37)) w.heap.size tk0) := kb_new w tk0
  have hb0 := b_at s i hi
  have HB0 := Lib.hid hb0
  clear hb0
  go_enter Try.func40, Try.ntmps40
  go_upto_region 1 with fail
  generalize hWW : w.alloc (.cells #[.int .i64 0, .int .i64 0, .string ⟨#[]⟩, .int .i64 0, .int .i64 0] 37) = W at HW HK ⊢
  clear hWW
  go_wp2_with fail
  rw [HB0.out]
  obtain ⟨c, hc⟩ : ∃ c, B s i = c := ⟨_, rfl⟩
  have HC := Lib.hid hc
  rw [hc]
  clear hc HB0
  have fin : ∀ (r : Tk × Int) (w3 w5 : World), Below W.heap.size W w3 → r = on s i → KB w5 w.heap.size r.1 → Only w3 w5 w.heap.size → TP (on s i) w (.returned (.tuple #[r.1.val, .int .i64 r.2])) w5 := fun r w3 w5 hb hr h5 ho5 => by
    rw [← hr]
    exact ⟨rfl, (HW.out.trans (hb.mono HW.out.size)).trans (ho5.below (Nat.le_refl _))⟩
  have FIN := Lib.hid fin
  clear fin
  refine (rletter_any c W).mono ?_
  rintro e W' ⟨rfl, rfl⟩
  rcases Bool.eq_false_or_eq_true (isL c) with hL | hL
  · rw [hL]
    have HL : Hid (isL (B s i) = true) := Lib.hid (by rw [HC.out]; exact hL)
    clear hL
        -- GEN (written by gen_rone.py)
    go_wp2
    go_loopw [7] (fun j wr => ∃ k : Nat, i ≤ k ∧ k ≤ s.size ∧ j = .int .i64 k ∧ wr = W' ∧ Hid (run isN s k = run isN s i)) (fun j _ => s.size - (intOf j).toNat)
    case atStart => exact ⟨i, by omega, by omega, rfl, rfl, Lib.hid rfl⟩
    case round =>
      obtain ⟨k, hik, hk, rfl, rfl, HR⟩ := hrel
      by_cases hlt : k < s.size
      · have HBk := Lib.hid (b_at s k hlt)
        go_wp2_with fail
        refine (rletter_any _ _).mono ?_
        rintro e w1 ⟨rfl, rfl⟩
        rw [b_at s k hlt]
        rcases Bool.eq_false_or_eq_true (isL (B s k)) with hp | hp
        · have HP : Hid (isN (B s k) = true) := Lib.hid (by unfold isN; rw [hp]; rfl)
          rw [hp]
          clear hp
          go_wp2
          go_roundw
          case rel => exact ⟨k + 1, by omega, by omega, by go_num, by trivial, Lib.hid ((run_yes hlt HP.out).symm.trans HR.out)⟩
          case measure => simp [intOf]; omega
        · have HPL := Lib.hid hp
          rw [hp]
          clear hp
          go_wp2_with fail
          refine (rdigit_any _ _).mono ?_
          rintro e w2 ⟨rfl, rfl⟩
          rw [b_at s k hlt]
          rcases Bool.eq_false_or_eq_true (isD (B s k)) with hq | hq
          · have HP : Hid (isN (B s k) = true) := Lib.hid (by unfold isN; rw [hq, Bool.or_true])
            rw [hq]
            clear hq
            go_wp2
            go_roundw
            case rel => exact ⟨k + 1, by omega, by omega, by go_num, by trivial, Lib.hid ((run_yes hlt HP.out).symm.trans HR.out)⟩
            case measure => simp [intOf]; omega
          · have HP : Hid (isN (B s k) = false) := Lib.hid (by unfold isN; rw [HPL.out, hq]; rfl)
            have HRUN : Hid (run isN s i = k) := Lib.hid (by rw [← HR.out, run_no HP.out])
            rw [hq]
            clear hq HP HPL HR
            obtain ⟨wr, hwr⟩ : ∃ wr, wr = w2 := ⟨_, rfl⟩
            subst hwr
            by_cases hlong : 16 < k - i
            · have d1 : decide ((16 : Int) < (k : Int) - i) = true := decide_eq_true (by omega)
              have HE : Hid (on s i = (tk0, 3)) := Lib.hid (tk_long HL.out (by rw [HRUN.out]; exact hlong))
              clear hlong
              go_wp2_with (refine wpList_store_K rfl _ _ rfl rfl HK.out tk0 rfl ?_)
              intro w5 hv5 ho5
              have HO5 := Lib.hid ho5
              clear ho5
              go_wp2
              try simp only [Exit.inBlock, Exit.then]
              refine bodyPost_ret (results_cell_tmp rfl _ _ w.heap.size _ _ _ rfl hv5 Try.underlying37 rfl (by kernel_rfl)) rfl ?_
              exact FIN.out (tk0, 3) wr w5 (Below.refl _ _) HE.out.symm hv5 HO5.out
            · have d1 : decide ((16 : Int) < (k : Int) - i) = false := decide_eq_false (by omega)
              have hsl := slice_txt2 s i k hik hk hm
              have hv0 : on s i = (⟨if isW (s.extract i k) = true then 3 else 1, 0, s.extract i k, i, k⟩, 0) := by
                have e := tk_name HL.out (by rw [HRUN.out]; exact hlong)
                rw [HRUN.out] at e
                exact e
              have HV0 := Lib.hid hv0
              clear hlong hv0
              obtain ⟨v, hv⟩ : ∃ v, s.extract i k = v := ⟨_, rfl⟩
              rw [hv] at hsl HV0
              clear hv
              go_wp2_with fail
              refine (words_any wr).mono ?_
              rintro e w3 ⟨rfl, hss, hb3⟩
              have HSS := Lib.hid hss; have HB3 := Lib.hid hb3; have HK3 := Lib.hid (HK.out.below hb3)
              clear hss hb3
              go_wp2_with fail
              refine (among_any v _ 20 20 wordB w3 HSS.out).mono ?_
              rintro e w4 ⟨rfl, rfl⟩
              rw [← isw_eq]
              rcases Bool.eq_false_or_eq_true (isW v) with hw | hw
              · have HE : Hid (on s i = (⟨3, 0, v, i, k⟩, 0)) := Lib.hid (by rw [HV0.out, hw]; rfl)
                rw [hw]
                clear hw
                go_wp2_with (refine wpList_store_K rfl _ _ rfl rfl HK3.out ⟨3, 0, v, i, k⟩ rfl ?_)
                intro w5 hv5 ho5
                have HO5 := Lib.hid ho5
                clear ho5
                go_wp2
                try simp only [Exit.inBlock, Exit.then]
                refine bodyPost_ret (results_cell_tmp rfl _ _ w.heap.size _ _ _ rfl hv5 Try.underlying37 rfl (by kernel_rfl)) rfl ?_
                exact FIN.out (⟨3, 0, v, i, k⟩, 0) w4 w5 HB3.out HE.out.symm hv5 HO5.out
              · have HE : Hid (on s i = (⟨1, 0, v, i, k⟩, 0)) := Lib.hid (by rw [HV0.out, hw]; rfl)
                rw [hw]
                clear hw
                go_wp2_with (refine wpList_store_K rfl _ _ rfl rfl HK3.out ⟨1, 0, v, i, k⟩ rfl ?_)
                intro w5 hv5 ho5
                have HO5 := Lib.hid ho5
                clear ho5
                go_wp2
                try simp only [Exit.inBlock, Exit.then]
                refine bodyPost_ret (results_cell_tmp rfl _ _ w.heap.size _ _ _ rfl hv5 Try.underlying37 rfl (by kernel_rfl)) rfl ?_
                exact FIN.out (⟨1, 0, v, i, k⟩, 0) w4 w5 HB3.out HE.out.symm hv5 HO5.out
      · have d9 : decide ((k : Int) < s.size) = false := decide_eq_false (by omega)
        have HRUN : Hid (run isN s i = k) := Lib.hid (by rw [← HR.out, run_end (by omega)])
        clear HR
        by_cases hlong : 16 < k - i
        · have d1 : decide ((16 : Int) < (k : Int) - i) = true := decide_eq_true (by omega)
          have HE : Hid (on s i = (tk0, 3)) := Lib.hid (tk_long HL.out (by rw [HRUN.out]; exact hlong))
          clear hlong
          go_wp2_with (refine wpList_store_K rfl _ _ rfl rfl HK.out tk0 rfl ?_)
          intro w5 hv5 ho5
          have HO5 := Lib.hid ho5
          clear ho5
          go_wp2
          try simp only [Exit.inBlock, Exit.then]
          refine bodyPost_ret (results_cell_tmp rfl _ _ w.heap.size _ _ _ rfl hv5 Try.underlying37 rfl (by kernel_rfl)) rfl ?_
          exact FIN.out (tk0, 3) wr w5 (Below.refl _ _) HE.out.symm hv5 HO5.out
        · have d1 : decide ((16 : Int) < (k : Int) - i) = false := decide_eq_false (by omega)
          have hsl := slice_txt2 s i k hik hk hm
          have hv0 : on s i = (⟨if isW (s.extract i k) = true then 3 else 1, 0, s.extract i k, i, k⟩, 0) := by
            have e := tk_name HL.out (by rw [HRUN.out]; exact hlong)
            rw [HRUN.out] at e
            exact e
          have HV0 := Lib.hid hv0
          clear hlong hv0
          obtain ⟨v, hv⟩ : ∃ v, s.extract i k = v := ⟨_, rfl⟩
          rw [hv] at hsl HV0
          clear hv
          go_wp2_with fail
          refine (words_any wr).mono ?_
          rintro e w3 ⟨rfl, hss, hb3⟩
          have HSS := Lib.hid hss; have HB3 := Lib.hid hb3; have HK3 := Lib.hid (HK.out.below hb3)
          clear hss hb3
          go_wp2_with fail
          refine (among_any v _ 20 20 wordB w3 HSS.out).mono ?_
          rintro e w4 ⟨rfl, rfl⟩
          rw [← isw_eq]
          rcases Bool.eq_false_or_eq_true (isW v) with hw | hw
          · have HE : Hid (on s i = (⟨3, 0, v, i, k⟩, 0)) := Lib.hid (by rw [HV0.out, hw]; rfl)
            rw [hw]
            clear hw
            go_wp2_with (refine wpList_store_K rfl _ _ rfl rfl HK3.out ⟨3, 0, v, i, k⟩ rfl ?_)
            intro w5 hv5 ho5
            have HO5 := Lib.hid ho5
            clear ho5
            go_wp2
            try simp only [Exit.inBlock, Exit.then]
            refine bodyPost_ret (results_cell_tmp rfl _ _ w.heap.size _ _ _ rfl hv5 Try.underlying37 rfl (by kernel_rfl)) rfl ?_
            exact FIN.out (⟨3, 0, v, i, k⟩, 0) w4 w5 HB3.out HE.out.symm hv5 HO5.out
          · have HE : Hid (on s i = (⟨1, 0, v, i, k⟩, 0)) := Lib.hid (by rw [HV0.out, hw]; rfl)
            rw [hw]
            clear hw
            go_wp2_with (refine wpList_store_K rfl _ _ rfl rfl HK3.out ⟨1, 0, v, i, k⟩ rfl ?_)
            intro w5 hv5 ho5
            have HO5 := Lib.hid ho5
            clear ho5
            go_wp2
            try simp only [Exit.inBlock, Exit.then]
            refine bodyPost_ret (results_cell_tmp rfl _ _ w.heap.size _ _ _ rfl hv5 Try.underlying37 rfl (by kernel_rfl)) rfl ?_
            exact FIN.out (⟨1, 0, v, i, k⟩, 0) w4 w5 HB3.out HE.out.symm hv5 HO5.out
  · rw [hL]
    have HL : Hid (isL (B s i) = false) := Lib.hid (by rw [HC.out]; exact hL)
    clear hL
    go_wp2_with fail
    refine (rdigit_any c W').mono ?_
    rintro e W2 ⟨rfl, rfl⟩
    rcases Bool.eq_false_or_eq_true (isD c) with hD | hD
    · rw [hD]
      have HD : Hid (isD (B s i) = true) := Lib.hid (by rw [HC.out]; exact hD)
      clear hD
      obtain ⟨W', hW'⟩ : ∃ W', W' = W2 := ⟨_, rfl⟩
      subst hW'
      go_wp2
      go_loopw [7] (fun j wr => ∃ k : Nat, i ≤ k ∧ k ≤ s.size ∧ j = .int .i64 k ∧ wr = W' ∧ Hid (run isD s k = run isD s i)) (fun j _ => s.size - (intOf j).toNat)
      case atStart => exact ⟨i, by omega, by omega, rfl, rfl, Lib.hid rfl⟩
      case round =>
        obtain ⟨k, hik, hk, rfl, rfl, HR⟩ := hrel
        by_cases hlt : k < s.size
        · have HBk := Lib.hid (b_at s k hlt)
          go_wp2_with fail
          refine (rdigit_any _ _).mono ?_
          rintro e w2 ⟨rfl, rfl⟩
          rw [b_at s k hlt]
          rcases Bool.eq_false_or_eq_true (isD (B s k)) with hq | hq
          · have HP := Lib.hid hq
            rw [hq]
            clear hq
            go_wp2
            go_roundw
            case rel => exact ⟨k + 1, by omega, by omega, by go_num, by trivial, Lib.hid ((run_yes hlt HP.out).symm.trans HR.out)⟩
            case measure => simp [intOf]; omega
          · have HP := Lib.hid hq
            have HRUN : Hid (run isD s i = k) := Lib.hid (by rw [← HR.out, run_no HP.out])
            rw [hq]
            clear hq HP HR
            obtain ⟨wr, hwr⟩ : ∃ wr, wr = w2 := ⟨_, rfl⟩
            subst hwr
            have hsl := slice_txt2 s i k hik hk hm
            have hlt2 : i < k := by
              rw [← HRUN.out, run_yes hi HD.out]
              have := run_bd isD s (i + 1) (by omega)
              omega
            have hcut : (s.extract i k).size = k - i := size_cut s i k hik hk
            have hdig := dig_cut (s := s) (i := i) (by omega)
            rw [HRUN.out] at hdig
            have HDG := Lib.hid hdig
            have HN0 : Hid (∀ o, num (s.extract i k) = o → on s i = (match o with | none => (tk0, 5) | some n => (⟨2, n, ⟨#[]⟩, i, k⟩, 0))) := Lib.hid (fun o ho => by
              cases o with
              | none => exact tk_nonum HL.out HD.out (by rw [HRUN.out]; exact ho)
              | some n =>
                have e := tk_number HL.out HD.out (by rw [HRUN.out]; exact ho)
                rw [HRUN.out] at e
                exact e)
            obtain ⟨v, hv⟩ : ∃ v, s.extract i k = v := ⟨_, rfl⟩
            rw [hv] at hsl hcut HDG HN0
            have HCUT := Lib.hid hcut
            clear hv hcut hdig
            go_wp2_with fail
            refine (rnumber_any v wr HDG.out (by have := HCUT.out; omega) (by have := HCUT.out; omega)).mono ?_
            rintro e w3 ⟨rfl, rfl⟩
            rcases hn : num v with _ | z
            · have HE : Hid (on s i = (tk0, 5)) := Lib.hid (HN0.out none hn)
              clear hn
              go_wp2_with (refine wpList_store_K rfl _ _ rfl rfl HK.out tk0 rfl ?_)
              intro w5 hv5 ho5
              have HO5 := Lib.hid ho5
              clear ho5
              go_wp2
              try simp only [Exit.inBlock, Exit.then]
              refine bodyPost_ret (results_cell_tmp rfl _ _ w.heap.size _ _ _ rfl hv5 Try.underlying37 rfl (by kernel_rfl)) rfl ?_
              exact FIN.out (tk0, 5) w3 w5 (Below.refl _ _) HE.out.symm hv5 HO5.out
            · have HE : Hid (on s i = (⟨2, z, ⟨#[]⟩, i, k⟩, 0)) := Lib.hid (HN0.out (some z) hn)
              clear hn
              simp only [optI, Option.getD_some, Option.isSome_some]
              go_wp2_with (refine wpList_store_K rfl _ _ rfl rfl HK.out ⟨2, z, ⟨#[]⟩, i, k⟩ rfl ?_)
              intro w5 hv5 ho5
              have HO5 := Lib.hid ho5
              clear ho5
              go_wp2
              try simp only [Exit.inBlock, Exit.then]
              refine bodyPost_ret (results_cell_tmp rfl _ _ w.heap.size _ _ _ rfl hv5 Try.underlying37 rfl (by kernel_rfl)) rfl ?_
              exact FIN.out (⟨2, z, ⟨#[]⟩, i, k⟩, 0) w3 w5 (Below.refl _ _) HE.out.symm hv5 HO5.out
        · have d9 : decide ((k : Int) < s.size) = false := decide_eq_false (by omega)
          have HRUN : Hid (run isD s i = k) := Lib.hid (by rw [← HR.out, run_end (by omega)])
          clear HR
          have hsl := slice_txt2 s i k hik hk hm
          have hlt2 : i < k := by
            rw [← HRUN.out, run_yes hi HD.out]
            have := run_bd isD s (i + 1) (by omega)
            omega
          have hcut : (s.extract i k).size = k - i := size_cut s i k hik hk
          have hdig := dig_cut (s := s) (i := i) (by omega)
          rw [HRUN.out] at hdig
          have HDG := Lib.hid hdig
          have HN0 : Hid (∀ o, num (s.extract i k) = o → on s i = (match o with | none => (tk0, 5) | some n => (⟨2, n, ⟨#[]⟩, i, k⟩, 0))) := Lib.hid (fun o ho => by
            cases o with
            | none => exact tk_nonum HL.out HD.out (by rw [HRUN.out]; exact ho)
            | some n =>
              have e := tk_number HL.out HD.out (by rw [HRUN.out]; exact ho)
              rw [HRUN.out] at e
              exact e)
          obtain ⟨v, hv⟩ : ∃ v, s.extract i k = v := ⟨_, rfl⟩
          rw [hv] at hsl hcut HDG HN0
          have HCUT := Lib.hid hcut
          clear hv hcut hdig
          go_wp2_with fail
          refine (rnumber_any v wr HDG.out (by have := HCUT.out; omega) (by have := HCUT.out; omega)).mono ?_
          rintro e w3 ⟨rfl, rfl⟩
          rcases hn : num v with _ | z
          · have HE : Hid (on s i = (tk0, 5)) := Lib.hid (HN0.out none hn)
            clear hn
            go_wp2_with (refine wpList_store_K rfl _ _ rfl rfl HK.out tk0 rfl ?_)
            intro w5 hv5 ho5
            have HO5 := Lib.hid ho5
            clear ho5
            go_wp2
            try simp only [Exit.inBlock, Exit.then]
            refine bodyPost_ret (results_cell_tmp rfl _ _ w.heap.size _ _ _ rfl hv5 Try.underlying37 rfl (by kernel_rfl)) rfl ?_
            exact FIN.out (tk0, 5) w3 w5 (Below.refl _ _) HE.out.symm hv5 HO5.out
          · have HE : Hid (on s i = (⟨2, z, ⟨#[]⟩, i, k⟩, 0)) := Lib.hid (HN0.out (some z) hn)
            clear hn
            simp only [optI, Option.getD_some, Option.isSome_some]
            go_wp2_with (refine wpList_store_K rfl _ _ rfl rfl HK.out ⟨2, z, ⟨#[]⟩, i, k⟩ rfl ?_)
            intro w5 hv5 ho5
            have HO5 := Lib.hid ho5
            clear ho5
            go_wp2
            try simp only [Exit.inBlock, Exit.then]
            refine bodyPost_ret (results_cell_tmp rfl _ _ w.heap.size _ _ _ rfl hv5 Try.underlying37 rfl (by kernel_rfl)) rfl ?_
            exact FIN.out (⟨2, z, ⟨#[]⟩, i, k⟩, 0) w3 w5 (Below.refl _ _) HE.out.symm hv5 HO5.out
    · rw [hD]
      have HD : Hid (isD (B s i) = false) := Lib.hid (by rw [HC.out]; exact hD)
      clear hD
      go_wp2_with fail
      refine (signs_any W2).mono ?_
      rintro e V ⟨rfl, hss, hbv⟩
      have HSS := Lib.hid hss; have HBV := Lib.hid hbv; have HKV := Lib.hid (HK.out.below hbv)
      clear hss hbv
      generalize W2.heap.size = sg at HSS ⊢
      go_wp2
      go_loopw [12] (fun j wr => ∃ k : Nat, k ≤ 26 ∧ j = .int .i64 k ∧ wr = V ∧ Hid (∀ y ∈ signL.take k, at' s i (mkB y) = false)) (fun j _ => 26 - (intOf j).toNat)
      case atStart => exact ⟨0, by omega, rfl, rfl, Lib.hid (fun y hy => by simp at hy)⟩
      case round =>
        obtain ⟨k, hk, rfl, rfl, HN⟩ := hrel
        by_cases hlt : k < 26
        · obtain ⟨b, off, x, hab, hb, hx, hc⟩ := ss_at HSS.out hlt
          simp only [Option.some.injEq, Addr.mk.injEq] at hab
          obtain ⟨rfl, rfl, _⟩ := hab
          have hxl : ∃ l, signL[k]? = some l ∧ x = mkB l := by
            unfold signB at hx
            rw [List.getElem?_map] at hx
            obtain ⟨l, h1, h2⟩ := Option.map_eq_some_iff.1 hx
            exact ⟨l, h1, h2.symm⟩
          obtain ⟨l, hl, hxe⟩ := hxl
          have hsz : x.size ≤ 2 := by
            have : ∀ y ∈ signL, y.length ≤ 2 := by decide
            rw [hxe, mk_size]
            exact this l (List.mem_of_getElem? hl)
          have HL1 := Lib.hid hl; have HXE := Lib.hid hxe
          rw [Nat.zero_add] at hc
          clear hl hxe hx
          go_wp2_with fail
          refine (begins_any s i x _ (by omega) hm (by omega)).mono ?_
          rintro e V2 ⟨rfl, rfl⟩
          rcases Bool.eq_false_or_eq_true (at' s i x) with hp | hp
          · have hf := sg_found hi HN.out HL1.out (by rw [← HXE.out]; exact hp)
            rw [← HXE.out] at hf
            have hle := sg_le hi
            have HE : Hid (on s i = (⟨4, 0, x, i, (i : Int) + x.size⟩, 0)) := Lib.hid (by
              rw [tk_sign HL.out HD.out hf.1, ← hf.2.1, ← hf.2.2]
              rw [show ((i + x.size : Nat) : Int) = (i : Int) + x.size by omega])
            rw [hp]
            clear hp hf
            have hw : IntKind.i64.wrap ((i : Int) + x.size) = (i : Int) + x.size := IntWalk.i64_in _ (by omega)
            go_wp2_with fail
            go_still_tail 13, (by kernel_rfl)
            change wpList _ _ _ _ _ (V2.drewN 1)
            have HK4 := Lib.hid (HKV.out.drewN 1)
            have HB4 := Lib.hid (below_drewN HBV.out 1)
            clear hc HKV HBV HSS
            generalize V2.drewN 1 = V4 at HK4 HB4 ⊢
            go_wp2_with (refine wpList_store_K rfl _ _ rfl rfl HK4.out ⟨4, 0, x, i, (i : Int) + x.size⟩ rfl ?_)
            intro w5 hv5 ho5
            have HO5 := Lib.hid ho5
            clear ho5
            go_wp2
            try simp only [Exit.inBlock, Exit.then]
            refine bodyPost_ret (results_cell_tmp rfl _ _ w.heap.size _ _ _ rfl hv5 Try.underlying37 rfl (by kernel_rfl)) rfl ?_
            exact FIN.out (⟨4, 0, x, i, (i : Int) + x.size⟩, 0) V4 w5 HB4.out HE.out.symm hv5 HO5.out
          · have HE : Hid (∀ y ∈ signL.take (k + 1), at' s i (mkB y) = false) := Lib.hid (fun y hy => by
              rw [List.take_add_one, List.mem_append] at hy
              rcases hy with hy | hy
              · exact HN.out y hy
              · rw [HL1.out] at hy
                have e : y = l := by simpa using hy
                rw [e, ← HXE.out]; exact hp)
            rw [hp]
            clear hp
            go_wp2
            go_roundw
            case rel => exact ⟨k + 1, by omega, by go_num, by trivial, HE⟩
            case measure => simp [intOf]; omega
        · have hn := sg_not hi (fun y hy => HN.out y (by rw [List.take_of_length_le (by have : signL.length = 26 := rfl; omega)]; exact hy))
          have HE : Hid (on s i = (tk0, 4)) := Lib.hid (tk_none HL.out HD.out hn)
          clear hn
          obtain rfl : k = 26 := by omega
          go_wp2_with (refine wpList_store_K rfl _ _ rfl rfl HKV.out tk0 rfl ?_)
          intro w5 hv5 ho5
          have HO5 := Lib.hid ho5
          clear ho5
          go_wp2
          try simp only [Exit.inBlock, Exit.then]
          refine bodyPost_ret (results_cell_tmp rfl _ _ w.heap.size _ _ _ rfl hv5 Try.underlying37 rfl (by kernel_rfl)) rfl ?_
          exact FIN.out (tk0, 4) wr w5 HBV.out HE.out.symm hv5 HO5.out
end Go.Proofs.Ythkfdheoakbfnaa.lx
namespace Go.Proofs.Ythkfdheoakbfnaa.lx
open Go.ChangeShapes Go.WideShapes Go.ChangeAt Go.RowKit
open bs
set_option linter.unusedVariables false
theorem OwnS.made0 {α : Type} {size : Nat} {cells : α → List Value} (w : World) (base : Nat) (e : TypeId) (hb : base ≤ w.heap.size) : OwnS size cells (w.alloc (.cells #[] e)) base e (some ⟨w.heap.size, 0, none⟩) 0 0 ([] : List α) := by
  refine ⟨⟨by simp, .inr ⟨w.heap.size, 0, _, rfl, hb, heap_alloc_new w _, Nat.le_refl _, by simp [maxLen], by simp, by simp⟩⟩, rfl⟩
structure RI (w wr : World) (s : ByteArray) (i : Nat) (a : Option Addr) (n c : Nat) (L : List Tk) : Prop where
  own : OwnK wr w.heap.size a n c L
  below : Below w.heap.size w wr
  eq : app L (toks s i) = toks s 0
  nx : nx s i = i
  le : i ≤ s.size
  few : n ≤ i
theorem RI.far {w wr w' : World} {s : ByteArray} {i : Nat} {a : Option Addr} {n c : Nat} {L : List Tk} (h : RI w wr s i a n c L) (hb : Below wr.heap.size wr w') : RI w w' s i a n c L :=
  ⟨h.own.below hb, h.below.trans (hb.mono h.below.size), h.eq, h.nx, h.le, h.few⟩
theorem ks_nil (w : World) (a : Addr) : KS w (some a) 0 0 [] := ⟨rfl, Nat.le_refl _, by omega, by simp, .inl rfl⟩
set_option maxRecDepth 100000 in
set_option maxHeartbeats 4000000 in
theorem rtokens_own (s : ByteArray) (w : World) (hmax : s.size ≤ 9223372036854775807) : Calls Try.prog 14 #[.string s] w (TsO (tokens s) w) := by
  have hW := below_alloc w (.cells #[] 37)
  have hO : OwnK (w.alloc (.cells #[] 37)) w.heap.size (some ⟨w.heap.size, 0, none⟩) 0 0 [] := OwnS.made0 w w.heap.size _ (Nat.le_refl _)
  have HW := Lib.hid hW; have HO := Lib.hid hO
  clear hW hO
  by_cases hbig : 8192 < s.size
  · have d0 : decide ((8192 : Int) < s.size) = true := decide_eq_true (by omega)
    have HE : Hid (tokens s = ([], 0, 3)) := Lib.hid (by unfold tokens; rw [if_pos hbig])
    clear hbig
    go_enter Try.func14, Try.ntmps14
    go_wp2
    go_ret3
    rw [HE.out]
    exact ⟨_, 0, 0, rfl, ⟨ks_nil _ _, .inl rfl⟩, HW.out⟩
  · have d0 : decide ((8192 : Int) < s.size) = false := decide_eq_false (by omega)
    have hm : s.size ≤ 100000 := by omega
    have HE : Hid (tokens s = toks s 0) := Lib.hid (by unfold tokens; rw [if_neg hbig])
    have hn0 := nx_le (s := s) (i := 0) (by omega)
    have hRI : RI w (w.alloc (.cells #[] 37)) s (nx s 0) (some ⟨w.heap.size, 0, none⟩) 0 0 [] := ⟨HO.out, HW.out, by rw [toks_nx (by omega)]; exact app_nil _, nx_idem (by omega), hn0.2, by omega⟩
    have HRI := Lib.hid hRI
    clear hRI hbig hn0
    go_enter Try.func14, Try.ntmps14
    go_wp2_with fail
    generalize hWW : w.alloc (.cells #[] 37) = W at HRI HW HO ⊢
    clear hWW
    refine (rnext_any s 0 W (by omega) hm).mono ?_
    rintro e W' ⟨rfl, rfl⟩
    go_wp2_with fail
    go_loopw [5, 6, 7, 8] (fun o at' _ _ wr => ∃ (i : Nat) (a : Option Addr) (n c : Nat) (L : List Tk), o = .slice a n c ∧ at' = .int .i64 i ∧ i ≤ s.size ∧ Hid (RI w wr s i a n c L)) (fun _ at' _ _ _ => s.size - (intOf at').toNat)
    case atStart => exact ⟨nx s 0, _, 0, 0, [], rfl, rfl, HRI.out.le, HRI⟩
    case round =>
      clear HRI HW HO
      obtain ⟨i, a, n, c, L, rfl, rfl, hile, HI⟩ := hrel
      by_cases hlt : i < s.size
      · go_wp2_with fail
        refine (rone_any s i wr hlt hm).mono ?_
        rintro e w2 ⟨rfl, hb2⟩
        have HI2 := Lib.hid (HI.out.far hb2)
        clear hb2 HI
        obtain ⟨r, hr⟩ : ∃ r, on s i = r := ⟨_, rfl⟩
        have HR := Lib.hid hr
        rw [hr]
        clear hr
        obtain ⟨x, z⟩ := r
        have HNX := Lib.hid HI2.out.nx
        have hrow : ∀ i, blockOf a = some i → i < w2.heap.size := fun i hi => (OwnS.blockLt HI2.out.own hi).2
        have HZ : Hid (KB (w2.alloc (.cells #[.int .i64 0, .int .i64 0, .string ⟨#[]⟩, .int .i64 0, .int .i64 0] 37)) w2.heap.size tk0) := kb_new w2 tk0
        have hbz := below_alloc w2 (.cells #[.int .i64 0, .int .i64 0, .string ⟨#[]⟩, .int .i64 0, .int .i64 0] 37)
        have HBZ := Lib.hid hbz
        clear hbz
        go_wp2_with (refine wpList_store_K rfl _ _ rfl rfl HZ.out x rfl ?_)
        intro w5 hv5 ho5
        have HV5 := Lib.hid hv5
        have HI5 := Lib.hid (HI2.out.far (HBZ.out.trans (ho5.below (Nat.le_refl _))))
        have hs5 : w5.heap.size = w2.heap.size + 1 := by rw [ho5.size, size_alloc]
        have HS5 := Lib.hid hs5; have HRW := Lib.hid hrow
        clear hv5 ho5 HZ HBZ HI2 hs5 hrow
        generalize hgt : w2.heap.size = gt at HV5 HS5 HRW ⊢
        clear hgt
        by_cases hz : z = 0
        · subst hz
          have hon : (on s i).2 = 0 := by rw [HR.out]
          have hto := on_to hlt hon
          rw [HR.out] at hto
          obtain ⟨hxf, j2, hxt, hj2, hj3⟩ := hto
          have HST : Hid (app (L ++ [x]) (toks s j2) = toks s 0) := Lib.hid (by
            have h := app_step (s := s) (i := i) (L := L) (by rw [HNX.out]; exact hlt) (by omega) (by rw [HNX.out]; exact hon)
            rw [HNX.out, HR.out] at h
            have e : ((x, (0 : Int)) : Tk × Int).1.t.toNat = j2 := by show x.t.toNat = j2; rw [hxt]; rfl
            rw [e] at h
            exact h.symm.trans HI5.out.eq)
          have hfew := HI5.out.few
          have HXT := Lib.hid hxt
          have hn1 : n + 1 ≤ 1000000 := by omega
          have HSRC := Lib.hid (src_new w5 x.cells 37)
          have HO6 := Lib.hid (HI5.out.own.below (below_alloc w5 (.cells x.row 37)))
          have hb6 : w.heap.size ≤ (w5.alloc (.cells x.row 37)).heap.size := by rw [size_alloc]; have := HI5.out.below.size; omega
          have HV6 : Hid (KB (w5.alloc (.cells x.row 37)) gt x) := Lib.hid (HV5.out.below (below_alloc _ _))
          have HI6 := Lib.hid (HI5.out.far (below_alloc w5 (.cells x.row 37)))
          clear hxf hxt hon hfew
          go_wp2_with (first | (refine wpList_load_K rfl _ rfl rfl HV5.out ?_) | (at_builtin; refine wpList_append_k rfl _ _ rfl w.heap.size rfl HO6.out rfl x HSRC.out hn1 hb6 ?_))
          intro a7 c7 w7 ho7 hb7 hg7
          have hv7 : KB w7 gt x := HV6.out.of (hg7.block gt HV6.out.lt (fun e => by have := HRW.out gt e.symm; omega))
          have HB7 : Hid (Below w.heap.size w w7) := Lib.hid (HI6.out.below.trans hb7)
          have HO7 := Lib.hid ho7
          have v4 : w7.cell? ⟨gt, 4, none⟩ = some (.int .i64 x.t) := by simpa using hv7.cell 4
          rw [HXT.out] at v4
          have hfew := HI5.out.few
          have HFEW : Hid (n + 1 ≤ j2) := Lib.hid (by omega)
          clear ho7 hb7 hg7 hv7 HO6 HV6 HI6 HV5 HI5 HSRC hfew
          go_wp2_with fail
          refine (rnext_any s j2 w7 hj3 hm).mono ?_
          rintro e w8 ⟨rfl, rfl⟩
          have hnx := nx_le hj3
          have HRN : Hid (RI w w8 s (nx s j2) a7 (n + 1) c7 (L ++ [x])) := Lib.hid ⟨HO7.out, HB7.out, by rw [toks_nx hj3]; exact HST.out, nx_idem hj3, hnx.2, by have := HFEW.out; omega⟩
          obtain ⟨j3, hj⟩ : ∃ j3, nx s j2 = j3 := ⟨_, rfl⟩
          rw [hj] at HRN hnx ⊢
          clear hj
          go_wp2
          go_roundw
          case rel => exact ⟨j3, a7, n + 1, c7, L ++ [x], rfl, rfl, hnx.2, HRN⟩
          case measure => simp [intOf]; omega
        · have d2 : (z != 0) = true := by rw [bne_iff_ne]; exact hz
          have HEE : Hid (tokens s = ([], i, z)) := Lib.hid (by
            have h := app_err (s := s) (i := i) (L := L) (by rw [HNX.out]; exact hlt) (by omega) (by rw [HNX.out, HR.out]; exact hz)
            rw [HNX.out, HR.out, HI5.out.eq] at h
            rw [HE.out, h])
          have HB6 := Lib.hid (HI5.out.below.trans ((below_alloc w5 (.cells #[] 37)).mono HI5.out.below.size))
          clear hz
          go_wp2
          go_ret3
          rw [HEE.out]
          exact ⟨_, 0, 0, rfl, ⟨ks_nil _ _, .inl rfl⟩, HB6.out⟩
      · obtain rfl : i = s.size := by omega
        have HEE : Hid (tokens s = (L ++ [tkEnd s], 0, 0)) := Lib.hid (by
          have h := app_end (s := s) (i := s.size) (L := L) (by rw [HI.out.nx]; exact Nat.le_refl _)
          rw [HI.out.eq] at h
          rw [HE.out, h])
        have hfew := HI.out.few
        have hn1 : n + 1 ≤ 1000000 := by omega
        have HSRC := Lib.hid (src_new wr (tkEnd s).cells 37)
        have HO6 := Lib.hid (HI.out.own.below (below_alloc wr (.cells (tkEnd s).row 37)))
        have hb6 : w.heap.size ≤ (wr.alloc (.cells (tkEnd s).row 37)).heap.size := by rw [size_alloc]; have := HI.out.below.size; omega
        have HB6 := Lib.hid (HI.out.below.trans ((below_alloc wr (.cells (tkEnd s).row 37)).mono HI.out.below.size))
        clear hfew
        go_wp2_with (at_builtin; refine wpList_append_k rfl _ _ rfl w.heap.size rfl HO6.out rfl (tkEnd s) HSRC.out hn1 hb6 ?_)
        intro a7 c7 w7 ho7 hb7 hg7
        have HO7 := Lib.hid ho7; have HB7 := Lib.hid (HB6.out.trans hb7)
        clear ho7 hb7 hg7
        go_wp2
        go_ret3
        rw [HEE.out]
        exact ⟨a7, n + 1, c7, rfl, ⟨OwnS.toks HO7.out, OwnS.anew HO7.out (Nat.le_refl _)⟩, HB7.out⟩
end Go.Proofs.Ythkfdheoakbfnaa.lx
end
section
namespace Go.Proofs.Ythkfdheoakbfnaa.am
open Go.ChangeShapes Go.WideShapes Go.ChangeAt Go.RowKit
open vt
set_option linter.unusedVariables false
def tkT (x : lx.Tk) : Tok := ⟨x.k, x.n, x.s, x.f, x.t⟩
def tokG (s : ByteArray) : List Tok × Nat × Int := ((lx.tokens s).1.map tkT, (lx.tokens s).2)
abbrev vTk (r : List Tok × Nat × Int) : AV := .tup [.c (.pv (.sl 5 (r.1.map kc))), .c (.pv (I (r.2.1 : Nat))), .c (.pv (I r.2.2))]
theorem rep_tokens {γ : Nat → G} {S : CS} {w w' : World} {r : List lx.Tk × Nat × Int} {e : Ending} (h : lx.TsO r w e w') : ∃ v, e = .returned v ∧ Below w.heap.size w w' ∧ RepV γ (newS S w w') w' v (vTk (r.1.map tkT, r.2)) := by
  obtain ⟨a, n, c, rfl, ⟨hk, hn⟩, hb⟩ := h
  refine ⟨_, rfl, hb, _, rfl, rfl, fun i x hx => ?_⟩
  have hsl : RepP (newS S w w') w' (.slice a n c) (.sl 5 ((r.1.map tkT).map kc)) := by
    rcases Nat.eq_zero_or_pos n with h0 | h0
    · subst h0
      have : r.1 = [] := List.length_eq_zero_iff.1 hk.len
      rw [this]
      exact .emp a c 5 hk.most hk.nil
    · rcases hn with hn | ⟨b, off, rfl, hnb⟩
      · omega
      rcases hk.at' with hz | ⟨b', off', hab, hlt, hc⟩
      · omega
      obtain ⟨rfl, rfl⟩ : b = b' ∧ off = off' := by injection hab with h; injection h with h1 h2; exact ⟨h1, h2⟩
      refine .sl b off n c 5 _ (by rw [List.length_map, List.length_map]; exact hk.len) h0 hk.cap hk.most (fun e he => ?_) (fun i j => (((r.1[i]?).bind fun x => x.cells[j]?)).getD undef) (fun i e j p h1 h2 => ?_) (fun i e j p h1 h2 => ?_)
      · obtain ⟨y, _, rfl⟩ := List.mem_map.1 he; rfl
      · rw [List.map_map, List.getElem?_map] at h1
        obtain ⟨y, hy, rfl⟩ := Option.map_eq_some_iff.1 h1
        have hj : j < 5 := (List.getElem?_eq_some_iff.1 h2).1
        refine ⟨.inr ⟨hnb, hlt⟩, ?_⟩
        rw [hy]
        have hcl : ∃ u, y.cells[j]? = some u := ⟨_, List.getElem?_eq_getElem (by exact hj)⟩
        obtain ⟨u, hu⟩ := hcl
        rw [hc i y hy j u hu]
        simp [hu]
      · rw [List.map_map, List.getElem?_map] at h1
        obtain ⟨y, hy, rfl⟩ := Option.map_eq_some_iff.1 h1
        rw [hy]
        have hj : j < 5 := (List.getElem?_eq_some_iff.1 h2).1
        match j, hj with
        | 0, _ => obtain rfl := Option.some.inj h2; exact .lit _ rfl
        | 1, _ => obtain rfl := Option.some.inj h2; exact .lit _ rfl
        | 2, _ => obtain rfl := Option.some.inj h2; exact .lit _ rfl
        | 3, _ => obtain rfl := Option.some.inj h2; exact .lit _ rfl
        | 4, _ => obtain rfl := Option.some.inj h2; exact .lit _ rfl
  match i, hx with
  | 0, hx => obtain rfl := Option.some.inj hx; exact ⟨_, rfl, hsl⟩
  | 1, hx => obtain rfl := Option.some.inj hx; exact ⟨_, rfl, .lit _ rfl⟩
  | 2, hx => obtain rfl := Option.some.inj hx; exact ⟨_, rfl, .lit _ rfl⟩
  | i + 3, hx => simp at hx
theorem rtokens_row (s : ByteArray) (hs : s.size ≤ 9223372036854775807) : Row Try.prog 14 [vS s] [] (vTk (tokG s)) [] := by
  refine ⟨⟨_, Try.func14, rfl, rfl⟩, spec_of_below (ch := []) fun γ S w vs hm hv => ?_⟩
  match vs, hv with
  | [v0], ⟨h0, _⟩ =>
    obtain ⟨rfl, _⟩ := lit_inv h0
    exact (lx.rtokens_own s w hs).mono fun e w' h => rep_tokens h
end Go.Proofs.Ythkfdheoakbfnaa.am
end
section
namespace Go.Proofs.Ythkfdheoakbfnaa.am
open Go.ChangeShapes Go.WideShapes Go.ChangeAt Go.RowKit
open vt
set_option linter.unusedVariables false
def CL (hi : Int) : Int → List Tok → Prop
  | lo, [] => lo ≤ hi
  | lo, x :: M => lo ≤ x.f ∧ x.f ≤ x.t ∧ CL hi x.t M
theorem cl_le {hi : Int} : ∀ {M : List Tok} {lo : Int}, CL hi lo M → lo ≤ hi
  | [], lo, h => h
  | x :: M, lo, ⟨h1, h2, h3⟩ => by have := cl_le h3; omega
theorem cl_at {hi : Int} : ∀ {M : List Tok} {lo : Int} (i : Nat), CL hi lo M → i < M.length → lo ≤ frT M i ∧ frT M i ≤ toT M i ∧ toT M i ≤ hi ∧ (i + 1 < M.length → toT M i ≤ frT M (i + 1))
  | x :: M, lo, 0, ⟨h1, h2, h3⟩, _ => by
    refine ⟨h1, h2, cl_le h3, fun h => ?_⟩
    cases M with
    | nil => simp at h
    | cons y M => exact h3.1
  | x :: M, lo, i + 1, ⟨h1, h2, h3⟩, hi => by
    have := cl_at i h3 (by simpa using hi)
    have e : ∀ j, frT (x :: M) (j + 1) = frT M j ∧ toT (x :: M) (j + 1) = toT M j := fun j => ⟨rfl, rfl⟩
    rw [(e i).1, (e i).2, (e (i + 1)).1]
    exact ⟨by omega, this.2.1, this.2.2.1, fun h => this.2.2.2 (by simpa using h)⟩
def T6 (x : Tok) : Prop := I6 x.n ∧ I6 x.f ∧ I6 x.t
theorem cl_to {hi lo : Int} {M : List Tok} (h : CL hi lo M) (h6 : ∀ x ∈ M, T6 x) : TO M := ⟨fun i hi => by
  obtain ⟨x, hx⟩ : ∃ x, M[i]? = some x := ⟨_, List.getElem?_eq_getElem hi⟩
  rw [nxt_some hx]; exact h6 x (List.mem_of_getElem? hx), fun i hi => (cl_at i h hi).2.1, fun i hi => (cl_at i h (by omega)).2.2.2 hi⟩
theorem cl_snoc {hi : Int} : ∀ {M : List Tok} {lo : Int} {x : Tok}, CL x.f lo M → x.f ≤ x.t → x.t ≤ hi → CL hi lo (M ++ [x])
  | [], lo, x, h, h1, h2 => ⟨h, h1, h2⟩
  | y :: M, lo, x, ⟨a1, a2, a3⟩, h1, h2 => ⟨a1, a2, cl_snoc a3 h1 h2⟩
def enT (s : ByteArray) : Tok := tkT (lx.tkEnd s)
theorem on_kind {s : ByteArray} {i : Nat} (hi : i < s.size) (h : (lx.on s i).2 = 0) : (lx.on s i).1.k ≠ 5 := by
  by_cases hL : lx.isL (lx.B s i) = true
  · by_cases h2 : 16 < lx.run lx.isN s i - i
    · rw [lx.tk_long hL h2] at h; simp at h
    · rw [lx.tk_name hL h2]; dsimp only; split <;> decide
  · have hL : lx.isL (lx.B s i) = false := by simpa using hL
    by_cases hD : lx.isD (lx.B s i) = true
    · cases hn : lx.num (s.extract i (lx.run lx.isD s i)) with
      | none => rw [lx.tk_nonum hL hD hn] at h; simp at h
      | some n => rw [lx.tk_number hL hD hn]; show (2 : Int) ≠ 5; decide
    · have hD : lx.isD (lx.B s i) = false := by simpa using hD
      by_cases hs : lx.sgN s i = 0
      · rw [lx.tk_none hL hD hs] at h; simp at h
      · rw [lx.tk_sign hL hD hs]; show (4 : Int) ≠ 5; decide
theorem on_n6 {s : ByteArray} {i : Nat} (hi : i < s.size) (h : (lx.on s i).2 = 0) : I6 (lx.on s i).1.n := by
  by_cases hL : lx.isL (lx.B s i) = true
  · by_cases h2 : 16 < lx.run lx.isN s i - i
    · rw [lx.tk_long hL h2] at h; simp at h
    · rw [lx.tk_name hL h2]; show I6 0; decide
  · have hL : lx.isL (lx.B s i) = false := by simpa using hL
    by_cases hD : lx.isD (lx.B s i) = true
    · cases hn : lx.num (s.extract i (lx.run lx.isD s i)) with
      | none => rw [lx.tk_nonum hL hD hn] at h; simp at h
      | some n =>
        rw [lx.tk_number hL hD hn]
        have := (lx.num_spell (lx.dig_cut (Nat.le_of_lt hi)) hn).2
        show I6 n
        exact ⟨by omega, this.2⟩
    · have hD : lx.isD (lx.B s i) = false := by simpa using hD
      by_cases hs : lx.sgN s i = 0
      · rw [lx.tk_none hL hD hs] at h; simp at h
      · rw [lx.tk_sign hL hD hs]; show I6 0; decide
theorem toks_ord (s : ByteArray) (hs : s.size ≤ 8192) : ∀ n i, s.size - i ≤ n → i ≤ s.size → (lx.toks s i).2.2 = 0 → ∃ M, (lx.toks s i).1 = M ++ [lx.tkEnd s] ∧ CL s.size i (M.map tkT) ∧ (∀ x ∈ M, x.k ≠ 5 ∧ T6 (tkT x)) ∧ M.length + i ≤ s.size := by
  intro n
  induction n with
  | zero =>
    intro i hn hi h
    have hx := lx.nx_le hi
    rw [lx.toks, dif_neg (by omega)]
    exact ⟨[], rfl, (by show (i : Int) ≤ s.size; omega), (fun x h => by cases h), (by simp; omega)⟩
  | succ n ih =>
    intro i hn hi h
    have hx := lx.nx_le hi
    by_cases h1 : lx.nx s i < s.size
    · have h2 : (lx.on s (lx.nx s i)).2 = 0 := by
        by_cases h2 : (lx.on s (lx.nx s i)).2 = 0
        · exact h2
        · rw [lx.toks, dif_pos ⟨h1, hi⟩, dif_neg h2] at h; exact absurd h h2
      obtain ⟨hf, j, hj, hlt, hle⟩ := lx.on_to h1 h2
      have hk := on_kind h1 h2
      have h6 := on_n6 h1 h2
      rw [lx.toks, dif_pos ⟨h1, hi⟩, dif_pos h2] at h ⊢
      simp only at h ⊢
      obtain ⟨x, hxe⟩ : ∃ x, (lx.on s (lx.nx s i)).1 = x := ⟨_, rfl⟩
      rw [hxe] at hf hj hk h h6 ⊢
      have hjt : x.t.toNat = j := by rw [hj]; simp
      rw [hjt] at h ⊢
      by_cases h3 : (lx.toks s j).2.2 = 0; rotate_left
      · rw [if_neg h3] at h; exact absurd h h3
      rw [if_pos h3]
      obtain ⟨M, a1, a2, a3, a4⟩ := ih j (by omega) hle h3
      refine ⟨x :: M, by rw [a1]; rfl, ⟨?_, ?_, ?_⟩, fun y hy => ?_, by simp; omega⟩
      · show (i : Int) ≤ x.f; rw [hf]; omega
      · show x.f ≤ x.t; rw [hf, hj]; omega
      · show CL _ x.t (M.map tkT); rw [hj]; exact a2
      · rcases List.mem_cons.1 hy with rfl | hy
        · exact ⟨hk, h6, by show I6 y.f; rw [hf]; exact ⟨by omega, by omega⟩, by show I6 y.t; rw [hj]; exact ⟨by omega, by omega⟩⟩
        · exact a3 y hy
    · rw [lx.toks, dif_neg (by omega)]
      exact ⟨[], rfl, (by show (i : Int) ≤ s.size; omega), (fun x h => by cases h), (by simp; omega)⟩
structure TokOk (s : ByteArray) (ts : List Tok) : Prop where
  ex : ∃ M, ts = M ++ [enT s] ∧ CL s.size 0 M ∧ (∀ x ∈ M, x.k ≠ 5 ∧ T6 x) ∧ M.length ≤ s.size ∧ s.size ≤ 8192
theorem tok_ok {s : ByteArray} (h : (tokG s).2.2 = 0) : TokOk s (tokG s).1 := by
  unfold tokG lx.tokens at h ⊢
  by_cases hb : 8192 < s.size
  · rw [if_pos hb] at h; exact absurd (show (3 : Int) = 0 from h) (by decide)
  rw [if_neg hb] at h ⊢
  obtain ⟨M, a1, a2, a3, a4⟩ := toks_ord s (by omega) s.size 0 (Nat.sub_le _ _) (Nat.zero_le _) h
  refine ⟨M.map tkT, ?_, a2, fun x hx => ?_, by simp; omega, by omega⟩
  · show ((lx.toks s 0).1).map tkT = _
    rw [a1, List.map_append]; rfl
  · obtain ⟨y, hy, rfl⟩ := List.mem_map.1 hx
    exact a3 y hy
theorem tok_to {s : ByteArray} {ts : List Tok} (h : TokOk s ts) : TO ts := by
  obtain ⟨M, rfl, h1, h2, h3, h4⟩ := h.ex
  refine cl_to (hi := s.size) (lo := 0) (cl_snoc (x := enT s) h1 (Int.le_refl _) (Int.le_refl _)) (fun x hx => ?_)
  rcases List.mem_append.1 hx with hx | hx
  · exact (h2 x hx).2
  · rw [List.mem_singleton.1 hx]
    have e : I6 (s.size : Int) := ⟨by omega, by omega⟩
    exact ⟨by show I6 0; decide, e, e⟩
theorem tok_len {s : ByteArray} {ts : List Tok} (h : TokOk s ts) : 0 < ts.length ∧ ts.length ≤ s.size + 1 := by
  obtain ⟨M, rfl, h1, h2, h3, h4⟩ := h.ex
  simp; omega
theorem tok_last {s : ByteArray} {ts : List Tok} (h : TokOk s ts) : nxt ts (ts.length - 1) = enT s := by
  obtain ⟨M, rfl, h1, h2, h3, h4⟩ := h.ex
  exact nxt_some (by simp)
end Go.Proofs.Ythkfdheoakbfnaa.am
end
