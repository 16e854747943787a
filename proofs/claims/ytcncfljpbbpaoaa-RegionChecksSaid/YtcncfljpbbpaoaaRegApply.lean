/-
  Layer 11: contracts of the document's Sorted (of edits in order) and Apply.
-/
import Derived.Test.YtcncfljpbbpaoaaRegMath2
import Derived.Test.YtcncfljpbbpaoaaCut
namespace Go.Proofs.Ytcncfljpbbpaoaa.rg
open Go.ChangeShapes Go.WideShapes Go.ChangeAt Go.RowKit
open bs
set_option linter.unusedVariables false

theorem txt_app (a b : ByteArray) : txt (a ++ b) = txt a ++ txt b := by
  unfold txt
  rw [ByteArray.data_append, Array.toList_append, List.map_append]
theorem take_mid (l : List Int) (a b : Nat) (h : a ≤ b) : l.take a ++ (l.take b).drop a = l.take b := by
  have := List.take_append_drop a (l.take b)
  rwa [List.take_take, Nat.min_eq_left h] at this
theorem mid_drop (l : List Int) (a b : Nat) (h : a ≤ b) (hb : b ≤ l.length) : (l.take b).drop a ++ l.drop b = l.drop a := by
  have h1 := congrArg (List.drop a) (List.take_append_drop b l)
  rw [List.drop_append_of_le_length (by rw [List.length_take]; omega)] at h1
  exact h1

def stage (p q : ByteArray) (l : List Reg) (k : Nat) : ByteArray := p.extract 0 (endP l k) ++ q.extract (endQ l k) q.size
theorem stage_last {p q : ByteArray} {l : List Reg} (S : Steps p q l) (he : endP l l.length ≤ p.size) : stage p q l l.length = p := by
  apply txt_inj
  unfold stage
  rw [txt_app, ← S.last, txt_extract, txt_extract]
  rw [List.drop_zero, take_mid _ _ _ he, ← txt_len, List.take_length]
theorem stage_zero (p q : ByteArray) (l : List Reg) : stage p q l 0 = q := by
  apply txt_inj
  unfold stage
  rw [txt_app, txt_extract, txt_extract]
  have e1 : endP l 0 = 0 := by cases l <;> rfl
  have e2 : endQ l 0 = 0 := by cases l <;> rfl
  rw [e1, e2, List.take_zero, List.drop_nil, List.nil_append, List.drop_zero, ← txt_len, List.take_length]
theorem end_at {l : List Reg} {k : Nat} {r : Reg} (hr : l[k]? = some r) : endP l (k + 1) = r.tp.toNat ∧ endQ l (k + 1) = r.tq.toNat := by
  constructor
  · show (match l[k]? with | some r => r.tp.toNat | none => 0) = _
    rw [hr]
  · show (match l[k]? with | some r => r.tq.toNat | none => 0) = _
    rw [hr]
theorem size_txt (p : ByteArray) : p.size = (txt p).length := (txt_len p).symm
theorem stage_step {p q : ByteArray} {l : List Reg} (S : Steps p q l) {k : Nat} {r : Reg} (hr : l[k]? = some r) :
    r.fp.toNat ≤ r.tp.toNat ∧ r.tp.toNat ≤ (stage p q l (k + 1)).size ∧
    ((stage p q l (k + 1)).extract 0 r.fp.toNat ++ q.extract r.fq.toNat r.tq.toNat) ++ (stage p q l (k + 1)).extract r.tp.toNat (stage p q l (k + 1)).size = stage p q l k := by
  obtain ⟨h1, h2, h3, h4, h5, h6, h7, h8, h9⟩ := S.each k r hr
  obtain ⟨eP, eQ⟩ := end_at hr
  have hT : txt (stage p q l (k + 1)) = (txt p).take r.tp.toNat ++ (txt q).drop r.tq.toNat := by
    unfold stage
    rw [txt_app, txt_extract, txt_extract, eP, eQ, List.drop_zero, ← txt_len q, List.take_length]
  have hlp : ((txt p).take r.tp.toNat).length = r.tp.toNat := by rw [List.length_take, txt_len]; omega
  refine ⟨by omega, ?_, ?_⟩
  · rw [size_txt, hT, List.length_append, hlp]; omega
  · apply txt_inj
    have h9' := congrArg txt h9
    rw [txt_extract, txt_extract] at h9'
    rw [txt_app, txt_app, txt_extract, txt_extract, txt_extract, size_txt (stage p q l (k + 1)), List.take_length, hT]
    unfold stage
    rw [txt_app, txt_extract, txt_extract, size_txt q, List.take_length, List.drop_zero, List.drop_zero]
    rw [List.take_append_of_le_length (by rw [hlp]; omega), List.take_take, Nat.min_eq_left (by omega)]
    rw [List.drop_append_of_le_length (by rw [hlp]; omega), show ((txt p).take r.tp.toNat).drop r.tp.toNat = [] from List.drop_eq_nil_of_le (by rw [hlp]; omega), List.nil_append, List.append_assoc, mid_drop _ _ _ (by omega) (by rw [txt_len]; omega)]
    rw [← take_mid (txt p) (endP l k) r.fp.toNat (by omega), h9', List.append_assoc, mid_drop _ _ _ (by omega) (by rw [txt_len]; omega)]
theorem stage_size {p q : ByteArray} {l : List Reg} (k : Nat) : (stage p q l k).size ≤ p.size + q.size := by
  unfold stage
  rw [size_txt, txt_app, txt_extract, txt_extract, List.length_append, List.length_drop, List.length_drop, List.length_take, List.length_take, txt_len, txt_len]
  omega
end Go.Proofs.Ytcncfljpbbpaoaa.rg
