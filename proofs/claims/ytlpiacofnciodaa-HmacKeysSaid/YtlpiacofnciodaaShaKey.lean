/-
  Layer 4: the contract of the document's key block.
-/
import Derived.Test.YtlpiacofnciodaaShaRSum
namespace Go.Proofs.Ytlpiacofnciodaa.sh
open Go.ChangeShapes Go.WideShapes Go.ChangeAt Go.RowKit
open bs
set_option linter.unusedVariables false
open Go.Proofs.Ytlpiacofnciodaa.ss (be be_len be_bytes tail zer APost byteT)

theorem xb_bd (p q : Int) : 0 ≤ bits .xor .u8 p q ∧ bits .xor .u8 p q ≤ 255 := by
  show 0 ≤ IntKind.u8.wrap _ ∧ IntKind.u8.wrap _ ≤ 255
  rw [ss.u8_wrap]
  omega
theorem shaSum_len (l : List Int) : (shaSum l).length = 32 := by
  unfold shaSum outB
  simp [St.list, be_len]
/-- What a key comes to, of at most 64 bytes. -/
def kk (l : List Int) : List Int := if 64 < l.length then shaSum l else l
theorem kk_len (l : List Int) : (kk l).length ≤ 64 := by
  unfold kk
  split
  · rw [shaSum_len]; omega
  · omega
/-- A key's block. -/
def kb (l : List Int) : List Int := kk l ++ List.replicate (64 - (kk l).length) 0
theorem kb_len (l : List Int) : (kb l).length = 64 := by
  have := kk_len l
  unfold kb
  rw [List.length_append, List.length_replicate]
  omega
theorem kb_at (l : List Int) (t : Nat) (h : t < 64) : (kb l).getD t 0 = if t < (kk l).length then (kk l).getD t 0 else 0 := by
  unfold kb
  split
  · rw [List.getD_eq_getElem?_getD, List.getElem?_append_left (by assumption), ← List.getD_eq_getElem?_getD]
  · rw [List.getD_eq_getElem?_getD, List.getElem?_append_right (by omega), List.getElem?_replicate]
    split <;> rfl
def padB (l : List Int) (q : Int) : List Int := (kb l).map fun p => bits .xor .u8 p q
theorem padB_len (l : List Int) (q : Int) : (padB l q).length = 64 := by unfold padB; rw [List.length_map, kb_len]
theorem padB_next (l : List Int) (q : Int) (t : Nat) (h : t < 64) : (padB l q).take t ++ [bits .xor .u8 ((kb l).getD t 0) q] = (padB l q).take (t + 1) := by
  rw [take_getD (by rw [padB_len]; exact h)]
  congr 2
  unfold padB
  rw [List.getD_eq_getElem?_getD, List.getD_eq_getElem?_getD, List.getElem?_map, List.getElem?_eq_getElem (by rw [kb_len]; exact h)]
  rfl

set_option maxRecDepth 100000 in
set_option maxHeartbeats 2000000 in
theorem rkey_any (a : Option Addr) (n c : Nat) (l : List Int) (q : Int) (w : World) (h : Bytes w a n c l) (hn : n ≤ 1000000) (q0 : 0 ≤ q) (q1 : q ≤ 255) (h0 : bits .xor .u8 0 q = q) :
    Calls Try.prog 31 #[.slice a n c, .int .u8 q] w (APost w w.heap.size 64 (padB l q)) := by
  have hlen := h.len
  subst hlen
  have hcap := h.cap
  have hmost := h.most
  have HH := Lib.hid h
  have H0 := Lib.hid h0
  clear h h0
  by_cases hg : 64 < l.length
  · have hgi : (64 : Int) < (l.length : Int) := by omega
    go_enter Try.func31, Try.ntmps31
    go_wp2_with fail
    refine (rsum_any a _ c l _ HH.out hn).mono ?_
    rintro e w1 ⟨a1, c1, rfl, ho1, hb1⟩
    have HBK := Lib.hid ho1.bytes
    have HWW := Lib.hid hb1
    have HSZ := Lib.hid hb1.size
    have HKB := Lib.hid (show ∀ t, t < 64 → (kb l).getD t 0 = if t < 32 then (shaSum l).getD t 0 else 0 from fun t ht => by
      rw [kb_at l t ht, show kk l = shaSum l from if_pos hg, shaSum_len])
    clear ho1 hb1
    go_wp2_with fail

    go_loopw [6, 7] (fun out i wr => ∃ (t c2 : Nat) (a2 : Option Addr), t ≤ 64 ∧ i = .int .i64 t ∧ out = .slice a2 t c2 ∧ OwnB wr w1.heap.size 5 a2 t c2 ((padB l q).take t) ∧ Below w1.heap.size w1 wr) (fun _ i _ => 64 - (intOf i).toNat)
    case atStart => exact ⟨0, 0, _, by omega, rfl, rfl, OwnB.made w1 _ _ [] _ rfl (Nat.le_refl _) (by simp [maxLen]) (by simp [AllB]), (Below.refl _ _).alloc (Nat.le_refl _) _⟩
    case round =>
      obtain ⟨t, c2, a2, ht, rfl, rfl, ho, hb⟩ := hrel
      have hsz := hb.size
      by_cases h64 : t < 64
      · have hnx := padB_next l q t h64
        by_cases htk : t < 32
        · obtain ⟨bk, offk, hak, hck⟩ := HBK.out.at'.resolve_left (by omega)
          have ct := hck t htk
          rw [← hb.cell (World.block_lt_of_cell? w1 _ ct)] at ct
          rw [HKB.out t h64, if_pos htk] at hnx
          have hbt := HBK.out.all.getD t
          have hmk := HBK.out.most; have hkk := HBK.out.cap
          generalize (shaSum l).getD t 0 = p at ct hnx hbt
          have hx := xb_bd p q
          have HN := Lib.hid hnx; have HO := Lib.hid ho; have HBl := Lib.hid hb
          clear hnx ho hb hck
          subst hak
          have htz : (t : Int) < (32 : Int) := by omega
          go_wp2_with (at_builtin; refine wpList_append_b byteT rfl _ _ rfl w1.heap.size rfl (l := (padB l q).take t) ?o1 rfl (l' := [bits .xor .u8 p q]) ?b1 ?_ ?_ ?_)
          case o1 => exact HO.out.alloc _
          case b1 => exact Bytes.one _ _ _ hx
          · omega
          · (try simp); omega
          intro a3 c3 w3 ho3 hb3 _
          rw [HN.out] at ho3
          have HO3 := Lib.hid ho3; have HB3 := Lib.hid ((HBl.out.alloc hsz _).trans hb3)
          clear ho3 hb3
          go_wp2
          go_roundw
          case rel => exact ⟨t + 1, c3, a3, by omega, by go_num, rfl, HO3.out, HB3.out⟩
          case measure => simp [intOf]; omega
        · rw [HKB.out t h64, if_neg htk, H0.out] at hnx
          have HN := Lib.hid hnx; have HO := Lib.hid ho; have HBl := Lib.hid hb
          have hmk := HBK.out.most; have hkk := HBK.out.cap
          clear hnx ho hb
          have htz : ¬ (t : Int) < (32 : Int) := by omega
          go_wp2_with (at_builtin; refine wpList_append_b byteT rfl _ _ rfl w1.heap.size rfl (l := (padB l q).take t) ?o1 rfl (l' := [q]) ?b1 ?_ ?_ ?_)
          case o1 => exact HO.out.alloc _
          case b1 => exact Bytes.one _ _ _ ⟨q0, q1⟩
          · omega
          · (try simp); omega
          intro a3 c3 w3 ho3 hb3 _
          rw [HN.out] at ho3
          have HO3 := Lib.hid ho3; have HB3 := Lib.hid ((HBl.out.alloc hsz _).trans hb3)
          clear ho3 hb3
          go_wp2
          go_roundw
          case rel => exact ⟨t + 1, c3, a3, by omega, by go_num, rfl, HO3.out, HB3.out⟩
          case measure => simp [intOf]; omega
      · obtain rfl : t = 64 := by omega
        rw [List.take_of_length_le (by rw [padB_len]; omega)] at ho
        have HO := Lib.hid (ho.mono HSZ.out); have HBl := Lib.hid (HWW.out.trans (hb.mono HSZ.out))
        clear ho hb
        go_wp2
        go_ret
        exact ⟨a2, c2, rfl, HO.out, HBl.out⟩

  · have hgi : ¬ (64 : Int) < (l.length : Int) := by omega
    have HBK := Lib.hid HH.out
    have HWW := Lib.hid (Below.refl w.heap.size w)
    have HSZ := Lib.hid (Nat.le_refl w.heap.size)
    have HKB := Lib.hid (show ∀ t, t < 64 → (kb l).getD t 0 = if t < l.length then l.getD t 0 else 0 from fun t ht => by
      rw [kb_at l t ht, show kk l = l from if_neg hg])
    go_enter Try.func31, Try.ntmps31
    go_wp2_with fail

    go_loopw [6, 7] (fun out i wr => ∃ (t c2 : Nat) (a2 : Option Addr), t ≤ 64 ∧ i = .int .i64 t ∧ out = .slice a2 t c2 ∧ OwnB wr w.heap.size 5 a2 t c2 ((padB l q).take t) ∧ Below w.heap.size w wr) (fun _ i _ => 64 - (intOf i).toNat)
    case atStart => exact ⟨0, 0, _, by omega, rfl, rfl, OwnB.made w _ _ [] _ rfl (Nat.le_refl _) (by simp [maxLen]) (by simp [AllB]), (Below.refl _ _).alloc (Nat.le_refl _) _⟩
    case round =>
      obtain ⟨t, c2, a2, ht, rfl, rfl, ho, hb⟩ := hrel
      have hsz := hb.size
      by_cases h64 : t < 64
      · have hnx := padB_next l q t h64
        by_cases htk : t < l.length
        · obtain ⟨bk, offk, hak, hck⟩ := HBK.out.at'.resolve_left (by omega)
          have ct := hck t htk
          rw [← hb.cell (World.block_lt_of_cell? w _ ct)] at ct
          rw [HKB.out t h64, if_pos htk] at hnx
          have hbt := HBK.out.all.getD t
          have hmk := HBK.out.most; have hkk := HBK.out.cap
          generalize l.getD t 0 = p at ct hnx hbt
          have hx := xb_bd p q
          have HN := Lib.hid hnx; have HO := Lib.hid ho; have HBl := Lib.hid hb
          clear hnx ho hb hck
          subst hak
          have htz : (t : Int) < (l.length : Int) := by omega
          go_wp2_with (at_builtin; refine wpList_append_b byteT rfl _ _ rfl w.heap.size rfl (l := (padB l q).take t) ?o1 rfl (l' := [bits .xor .u8 p q]) ?b1 ?_ ?_ ?_)
          case o1 => exact HO.out.alloc _
          case b1 => exact Bytes.one _ _ _ hx
          · omega
          · (try simp); omega
          intro a3 c3 w3 ho3 hb3 _
          rw [HN.out] at ho3
          have HO3 := Lib.hid ho3; have HB3 := Lib.hid ((HBl.out.alloc hsz _).trans hb3)
          clear ho3 hb3
          go_wp2
          go_roundw
          case rel => exact ⟨t + 1, c3, a3, by omega, by go_num, rfl, HO3.out, HB3.out⟩
          case measure => simp [intOf]; omega
        · rw [HKB.out t h64, if_neg htk, H0.out] at hnx
          have HN := Lib.hid hnx; have HO := Lib.hid ho; have HBl := Lib.hid hb
          have hmk := HBK.out.most; have hkk := HBK.out.cap
          clear hnx ho hb
          have htz : ¬ (t : Int) < (l.length : Int) := by omega
          go_wp2_with (at_builtin; refine wpList_append_b byteT rfl _ _ rfl w.heap.size rfl (l := (padB l q).take t) ?o1 rfl (l' := [q]) ?b1 ?_ ?_ ?_)
          case o1 => exact HO.out.alloc _
          case b1 => exact Bytes.one _ _ _ ⟨q0, q1⟩
          · omega
          · (try simp); omega
          intro a3 c3 w3 ho3 hb3 _
          rw [HN.out] at ho3
          have HO3 := Lib.hid ho3; have HB3 := Lib.hid ((HBl.out.alloc hsz _).trans hb3)
          clear ho3 hb3
          go_wp2
          go_roundw
          case rel => exact ⟨t + 1, c3, a3, by omega, by go_num, rfl, HO3.out, HB3.out⟩
          case measure => simp [intOf]; omega
      · obtain rfl : t = 64 := by omega
        rw [List.take_of_length_le (by rw [padB_len]; omega)] at ho
        have HO := Lib.hid (ho.mono HSZ.out); have HBl := Lib.hid (HWW.out.trans (hb.mono HSZ.out))
        clear ho hb
        go_wp2
        go_ret
        exact ⟨a2, c2, rfl, HO.out, HBl.out⟩

end Go.Proofs.Ytlpiacofnciodaa.sh
