/-
  Layer 5: the document's Number, Words, Signs and Among.
-/
import Derived.Test.YtlfhdjlgjekcpaaDoorLexRNext
import Derived.Test.YtlfhdjlgjekcpaaDoorLexNum
import Derived.Test.YtlfhdjlgjekcpaaDoorLexTok
import Derived.Test.YtlfhdjlgjekcpaaDoorStructs
namespace Go.Proofs.YtlfhdjlgjekcpaaDoor.lx
open Go.ChangeShapes Go.WideShapes Go.ChangeAt Go.RowKit
open bs
set_option linter.unusedVariables false

theorem numV_drop {v : ByteArray} {k : Nat} (h : k < v.size) (acc : Int) : numV acc ((txt v).drop k) = if (9223372036854775807 - (B v k - 48)) / 10 < acc then none else numV (acc * 10 + (B v k - 48)) ((txt v).drop (k + 1)) := by
  have h3 : k < (txt v).length := by rw [txt_len]; exact h
  rw [List.drop_eq_getElem_cons h3, numV]
  have h4 : (txt v)[k] = B v k := by unfold B; rw [List.getD_eq_getElem?_getD, List.getElem?_eq_getElem h3]; rfl
  rw [h4]
theorem dig_at {v : ByteArray} (hd : Dig v.data.toList) {k : Nat} (h : k < v.size) : 48 ≤ B v k ∧ B v k ≤ 57 := by
  have h' : k < v.data.toList.length := by rw [Array.length_toList]; exact h
  have h2 := hd _ (List.getElem_mem h')
  have h3 : B v k = ((v.data.toList[k]).toNat : Int) := by
    unfold B txt
    rw [List.getD_eq_getElem?_getD, List.getElem?_map, List.getElem?_eq_getElem h']
    rfl
  omega
def optI (o : Option Int) : Int := o.getD 0

set_option maxRecDepth 100000 in
set_option maxHeartbeats 2000000 in
theorem rnumber_any (v : ByteArray) (w : World) (hd : Dig v.data.toList) (hne : 0 < v.size) (hm : v.size ≤ 100000) :
    Calls Tryd.prog 38 #[.string v] w fun e w' => e = .returned (.tuple #[.int .i64 (optI (num v)), .bool (num v).isSome]) ∧ w' = w := by
  have e0 := b_at v 0 hne
  have HD := Lib.hid hd
  clear hd
  by_cases h0 : 1 < v.size ∧ B v 0 = 48
  · have d1 : decide ((1 : Int) < v.size) = true := decide_eq_true (by omega)
    have d2 : (((v[0]).toNat : Int) == 48) = true := by rw [e0, h0.2]; rfl
    have d0 : ((v.size : Int) == 0) = false := by rw [beq_eq_false_iff_ne]; omega
    have HN : Hid (num v = none) := Lib.hid (by unfold num; rw [if_pos (.inr h0)])
    clear h0 e0
    go_enter Tryd.func38, Tryd.ntmps38
    go_wp2
    go_ret2
    rw [HN.out]
    exact ⟨rfl, by trivial⟩
  · have HN : Hid (num v = numV 0 (txt v)) := Lib.hid (by unfold num; rw [if_neg (by rintro (h | h); omega; exact h0 h)])
    have d0 : ((v.size : Int) == 0) = false := by rw [beq_eq_false_iff_ne]; omega
    have hor : (decide ((1 : Int) < v.size) = true ∧ (((v[0]).toNat : Int) == 48) = false) ∨ decide ((1 : Int) < v.size) = false := by
      by_cases h1 : 1 < v.size
      · refine .inl ⟨decide_eq_true (by omega), ?_⟩
        rw [e0, beq_eq_false_iff_ne]
        exact fun h => h0 ⟨h1, h⟩
      · exact .inr (decide_eq_false (by omega))
    clear h0 e0
    rcases hor with ⟨d1, d2⟩ | d1
    all_goals
      go_enter Tryd.func38, Tryd.ntmps38
      go_wp2
      go_loopw [4, 5, 6] (fun o j _ wr => ∃ (k : Nat) (acc : Int), k ≤ v.size ∧ j = .int .i64 k ∧ o = .int .i64 acc ∧ wr = w ∧ 0 ≤ acc ∧ acc ≤ 9223372036854775807 ∧ Hid (numV acc ((txt v).drop k) = numV 0 (txt v))) (fun _ j _ _ => v.size - (intOf j).toNat)
      case atStart => exact ⟨0, 0, by omega, rfl, rfl, rfl, by omega, by omega, Lib.hid (by rw [List.drop_zero])⟩
      case round =>
        obtain ⟨k, acc, hk, rfl, rfl, rfl, ha0, ha1, HV⟩ := hrel
        by_cases hlt : k < v.size
        · have hb := dig_at HD.out hlt
          have HB := Lib.hid (b_at v k hlt)
          have HS := Lib.hid (numV_drop hlt acc)
          have hm8 : (((v[k]).toNat : Int) - 48) % 256 = B v k - 48 := by rw [b_at v k hlt]; omega
          have HM8 := Lib.hid hm8
          by_cases hov : (9223372036854775807 - (B v k - 48)) / 10 < acc
          · have d3 : decide ((9223372036854775807 - (((v[k]).toNat : Int) - 48) % 256) / 10 < acc) = true := by rw [hm8]; exact decide_eq_true hov
            have HE : Hid (num v = none) := Lib.hid (by rw [HN.out, ← HV.out, HS.out, if_pos hov])
            clear hov hm8
            go_wp2
            go_ret2
            rw [HE.out]
            exact ⟨rfl, by trivial⟩
          · have d3 : decide ((9223372036854775807 - (((v[k]).toNat : Int) - 48) % 256) / 10 < acc) = false := by rw [hm8]; exact decide_eq_false hov
            have HE : Hid (numV (acc * 10 + (B v k - 48)) ((txt v).drop (k + 1)) = numV 0 (txt v)) := Lib.hid (by rw [← HV.out, HS.out, if_neg hov])
            have hup : acc * 10 + (B v k - 48) ≤ 9223372036854775807 := by omega
            clear hov hm8
            go_wp2
            go_roundw
            case rel => exact ⟨k + 1, acc * 10 + (B v k - 48), by omega, by go_num, by rw [HM8.out]; congr 1; unfold wrap64; omega, by trivial, by omega, hup, HE⟩
            case measure => simp [intOf]; omega
        · obtain rfl : k = v.size := by omega
          have HE : Hid (num v = some acc) := Lib.hid (by
            rw [HN.out, ← HV.out, List.drop_eq_nil_of_le (by rw [txt_len]; exact Nat.le_refl _)]
            rfl)
          go_wp2
          go_ret2
          rw [HE.out]
          exact ⟨rfl, by trivial⟩

/-- A slice of texts. -/
abbrev SS (w : World) (a : Option Addr) (n c : Nat) (L : List ByteArray) : Prop := Recs 1 (fun w b o (x : ByteArray) => w.cell? ⟨b, o, none⟩ = some (.string x)) w a n c L
theorem ss_stays : Stays (fun w b o (x : ByteArray) => w.cell? ⟨b, o, none⟩ = some (.string x)) := fun w w' b o x h hb hbel => by
  show w'.cell? ⟨b, o, none⟩ = _
  rw [hbel.cell (p := ⟨b, o, none⟩) hb]; exact h
theorem ss_at {w : World} {a n c} {L : List ByteArray} (h : SS w a n c L) {k : Nat} (hk : k < n) : ∃ b off x, a = some ⟨b, off, none⟩ ∧ b < w.heap.size ∧ L[k]? = some x ∧ w.cell? ⟨b, off + k, none⟩ = some (.string x) := by
  have hl := h.len
  rcases h.at' with h0 | ⟨b, off, ha, hb, hc⟩
  · omega
  · have hx : L[k]? = some (L[k]'(by omega)) := List.getElem?_eq_getElem _
    have := hc k _ hx
    rw [Nat.mul_one] at this
    exact ⟨b, off, _, ha, hb, hx, this⟩
theorem ss_new (w : World) (L : List ByteArray) (n : Nat) (cs : Array Value) (hcs : cs = (L.map Value.string).toArray) (hn : L.length = n) (hm : n ≤ 1000) (e : TypeId) : SS (w.alloc (.cells cs e)) (some ⟨w.heap.size, 0, none⟩) n n L := by
  subst hcs
  refine ⟨hn, Nat.le_refl _, by omega, by simp, .inr ⟨_, 0, rfl, by rw [size_alloc]; omega, fun i x hi => ?_⟩⟩
  rw [cell_new w _ e _ _ rfl, Nat.zero_add, Nat.mul_one, List.getElem?_toArray, List.getElem?_map, hi]
  rfl

def wordB : List ByteArray := wordL.map mkB
def signB : List ByteArray := signL.map mkB
theorem words_any (w : World) : Calls Tryd.prog 26 #[] w fun e w' => e = .returned (.slice (some ⟨w.heap.size, 0, none⟩) 20 20) ∧ SS w' (some ⟨w.heap.size, 0, none⟩) 20 20 wordB ∧ Below w.heap.size w w' := by
  go_enter Tryd.func26, Tryd.ntmps26
  go_wp2
  go_ret
  exact ⟨rfl, ss_new w wordB 20 _ rfl rfl (by omega) _, below_alloc _ _⟩
theorem signs_any (w : World) : Calls Tryd.prog 39 #[] w fun e w' => e = .returned (.slice (some ⟨w.heap.size, 0, none⟩) 26 26) ∧ SS w' (some ⟨w.heap.size, 0, none⟩) 26 26 signB ∧ Below w.heap.size w w' := by
  go_enter Tryd.func39, Tryd.ntmps39
  go_wp2
  go_ret
  exact ⟨rfl, ss_new w signB 26 _ rfl rfl (by omega) _, below_alloc _ _⟩

theorem isw_eq (v : ByteArray) : isW v = wordB.any (fun x => x.toList == v.toList) := by
  unfold isW wordB
  rw [List.any_map]
  congr 1
  funext l
  show (v.toList == l) = ((mkB l).toList == v.toList)
  have e : (mkB l).toList = l := by rw [ByteArray.toList_eq]; rfl
  rw [e]
  by_cases h : v.toList = l
  · rw [h]
  · rw [beq_eq_false_iff_ne.2 h, beq_eq_false_iff_ne.2 (fun x => h x.symm)]

set_option maxRecDepth 100000 in
set_option maxHeartbeats 1000000 in
theorem among_any (v : ByteArray) (a : Option Addr) (n c : Nat) (L : List ByteArray) (w : World) (h : SS w a n c L) :
    Calls Tryd.prog 25 #[.string v, .slice a n c] w fun e w' => e = .returned (.bool (L.any (fun x => x.toList == v.toList))) ∧ w' = w := by
  have hcap := h.cap; have hmost := h.most; have hlen := h.len
  have H := Lib.hid h; have HLEN := Lib.hid hlen
  clear h hlen
  go_enter Tryd.func25, Tryd.ntmps25
  go_wp2
  go_loopw [5] (fun j wr => ∃ k : Nat, k ≤ n ∧ j = .int .i64 k ∧ wr = w ∧ Hid ((L.drop k).any (fun x => x.toList == v.toList) = L.any (fun x => x.toList == v.toList))) (fun j _ => n - (intOf j).toNat)
  case atStart => exact ⟨0, by omega, rfl, rfl, Lib.hid (by rw [List.drop_zero])⟩
  case round =>
    obtain ⟨k, hk, rfl, rfl, HA⟩ := hrel
    by_cases hlt : k < n
    · obtain ⟨b, off, x, rfl, hb, hx, hc⟩ := ss_at H.out hlt
      have hxk := (List.getElem?_eq_some_iff.1 hx)
      obtain ⟨hkl, hxe⟩ := hxk
      have hdr : (L.drop k).any (fun x => x.toList == v.toList) = ((x.toList == v.toList) || (L.drop (k + 1)).any (fun x => x.toList == v.toList)) := by
        rw [List.drop_eq_getElem_cons hkl, hxe, List.any_cons]
      have HDR := Lib.hid (hdr.symm.trans HA.out)
      clear hdr hx hxe hkl
      rcases Bool.eq_false_or_eq_true (x.toList == v.toList) with he | he
      · have HE : Hid (L.any (fun x => x.toList == v.toList) = true) := Lib.hid (by rw [← HDR.out, he]; rfl)
        go_wp2
        go_ret
        rw [HE.out]
        exact ⟨rfl, by trivial⟩
      · have HE : Hid ((L.drop (k + 1)).any (fun x => x.toList == v.toList) = L.any (fun x => x.toList == v.toList)) := Lib.hid (by rw [← HDR.out, he, Bool.false_or])
        go_wp2
        go_roundw
        case rel => exact ⟨k + 1, by omega, by go_num, by trivial, HE⟩
        case measure => simp [intOf]; omega
    · have HE : Hid (L.any (fun x => x.toList == v.toList) = false) := Lib.hid (by
        rw [← HA.out, List.drop_eq_nil_of_le (by rw [HLEN.out]; omega)]
        rfl)
      go_wp2
      go_ret
      rw [HE.out]
      exact ⟨rfl, by trivial⟩
end Go.Proofs.YtlfhdjlgjekcpaaDoor.lx
