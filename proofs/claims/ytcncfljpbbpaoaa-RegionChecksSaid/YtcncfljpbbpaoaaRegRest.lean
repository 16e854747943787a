/-
  Layer 38: contracts of the document's Rest, Check, Turned.
-/
import Derived.Test.YtcncfljpbbpaoaaRegRef2
namespace Go.Proofs.Ytcncfljpbbpaoaa.rg
open Go.ChangeShapes Go.WideShapes Go.ChangeAt Go.RowKit
open bs
set_option linter.unusedVariables false

def scells (s : ByteArray) : List Value := [.string s]
theorem strT : RecT Try.prog 89 9 (.string ByteArray.empty) 1 16 := ⟨Try.underlying89, by kernel_rfl, by kernel_rfl⟩
theorem str_new (w : World) : OwnS 1 scells (w.alloc (.cells #[] 9)) w.heap.size 9 (some ⟨w.heap.size, 0, none⟩) 0 0 ([] : List ByteArray) :=
  ⟨⟨rfl, .inr ⟨w.heap.size, 0, #[], rfl, Nat.le_refl _, heap_alloc_new w _, Nat.le_refl _, Nat.zero_le _, rfl, rfl⟩⟩, rfl⟩
def StrPost (w : World) (L : List ByteArray) (e : Ending) (w' : World) : Prop :=
  ∃ (a : Option Addr) (n c : Nat), e = .returned (.slice a n c) ∧ OwnS 1 scells w' w.heap.size 9 a n c L ∧ Below w.heap.size w w'

set_option maxRecDepth 100000 in
set_option maxHeartbeats 2000000 in
theorem restP_any (t : ByteArray) (a : Option Addr) (n c : Nat) (l : List Reg) (w : World) (h : Recs 4 RegAt w a n c l) (ht : t.size ≤ 9223372036854775807) (hn : n ≤ 1000000) (hok : OkP t.size l) :
    Calls Try.prog 55 #[.string t, .slice a n c, .bool false] w (StrPost w (restP t 0 l)) := by
  have hm := h.most
  have hk := h.cap
  have HX := Lib.hid h; have HOK := Lib.hid hok; clear h hok
  go_enter Try.func55, Try.ntmps55
  go_wp2
  go_loopw [7, 8, 9] (fun out at' i wr => ∃ (k : Nat) (a2 : Option Addr) (c2 : Nat) (acc : List ByteArray), k ≤ n ∧ i = .int .i64 k ∧ out = .slice a2 k c2 ∧ at' = .int .i64 (endP l k) ∧ Hid (Below w.heap.size w wr) ∧ Hid (OwnS 1 scells wr w.heap.size 9 a2 k c2 acc) ∧ Hid (acc ++ restP t (endP l k) (l.drop k) = restP t 0 l)) (fun _ _ i _ => n - (intOf i).toNat)
  case atStart => exact ⟨0, _, 0, [], by omega, rfl, rfl, by rw [endP_zero]; rfl, (Below.refl _ _).alloc (Nat.le_refl _) _, str_new w, by rw [endP_zero]; rfl⟩
  case round =>
    obtain ⟨k, a2, c2, acc, hkn, rfl, rfl, rfl, hb, ho, hacc⟩ := hrel
    have hbs := hb.out.size
    have hle := endP_le HOK.out k
    by_cases hlt : k < n
    · have HR := HX.out.below regStays hb.out
      obtain ⟨r, hr⟩ : ∃ r, l[k]? = some r := ⟨l[k]'(by have := HR.len; omega), List.getElem?_eq_getElem _⟩
      rcases HR.at' with h0 | ⟨b, off, rfl, hbl, hcell⟩
      · omega
      obtain ⟨c0, c1, c2', c3, -, -, -, -⟩ := hcell k r hr
      obtain ⟨o1, o2, o3, o4⟩ := HOK.out k r hr
      have hst := restP_step (t := t) hr
      have hsu := endP_succ hr
      have HST := Lib.hid hst; have HSU := Lib.hid hsu
      clear HR hcell hst hsu
      obtain ⟨rfp, rtp, rfq, rtq⟩ := r
      dsimp only at c0 c1 c2' c3 o1 o2 o3 o4 HST HSU
      obtain ⟨f, rfl⟩ := Int.eq_ofNat_of_zero_le o2
      obtain ⟨u, rfl⟩ := Int.eq_ofNat_of_zero_le (show 0 ≤ rtp by omega)
      rw [Int.toNat_natCast] at HST HSU
      have o5 : endP l k ≤ f := by omega
      have o6 : f ≤ t.size := by omega
      have hsu' := HSU.out
      have HN : Hid ((acc ++ [t.extract (endP l k) f]) ++ restP t (endP l (k + 1)) (l.drop (k + 1)) = restP t 0 l) := by
        rw [List.append_assoc]; show acc ++ ([t.extract (endP l k) f] ++ _) = _
        rw [List.singleton_append, ← HST.out]; exact hacc.out
      rw [hsu'] at HN
      generalize hE : endP l k = x at HN hle o1 o5 ⊢
      clear hE HST hsu' hacc hr
      go_wp2_with fail
      go_quiet (fail)
      go_wp2_with (at_builtin; refine wpList_append_s strT (by decide) rfl (.tmp 40) (.tmp 45) rfl w.heap.size rfl ((ho.out.below (below_drewN (Below.refl _ _) _)).below ((Below.refl _ _).alloc (Nat.le_refl _) _)) rfl (t.extract x f) rfl (by simp [scells, Value.oneCell']) (src_new _ (scells (t.extract x f)) 9) (by omega) (by unfold maxLen; omega) (by simp; omega) ?_)
      intro a3 c3' w3 ho3 hb3
      have HO3 := Lib.hid ho3
      have HB3 : Hid (Below w.heap.size w w3) := Lib.hid ((Below.alloc (below_drewN hb.out _) (by simpa using hbs) _).trans hb3)
      clear ho3 hb3
      go_wp2
      go_roundw
      case rel => exact ⟨k + 1, a3, c3', acc ++ [t.extract x f], by omega, by go_num, rfl, by rw [HSU.out], HB3, HO3, by rw [HSU.out]; exact HN⟩
      case measure => simp [intOf]; omega
    · obtain rfl : k = n := by omega
      have hfin := hacc.out
      rw [List.drop_eq_nil_of_le (by have := HX.out.len; omega)] at hfin
      have HF : Hid (acc ++ [t.extract (endP l k) t.size] = restP t 0 l) := hfin
      generalize hE : endP l k = x at HF hle ⊢
      clear hfin hE hacc
      go_wp2_with (at_builtin; refine wpList_append_s strT (by decide) rfl (.tmp 48) (.tmp 52) rfl w.heap.size rfl (ho.out.below ((Below.refl _ _).alloc (Nat.le_refl _) _)) rfl (t.extract x t.size) rfl (by simp [scells, Value.oneCell']) (src_new _ (scells (t.extract x t.size)) 9) (by omega) (by unfold maxLen; omega) (by simp; omega) ?_)
      intro a3 c3' w3 ho3 hb3
      rw [HF.out] at ho3
      have HO3 := Lib.hid ho3
      have HB3 : Hid (Below w.heap.size w w3) := Lib.hid ((hb.out.alloc hbs _).trans hb3)
      clear ho3 hb3
      go_wp2
      go_ret
      exact ⟨a3, _, c3', rfl, HO3.out, HB3.out⟩

set_option maxRecDepth 100000 in
set_option maxHeartbeats 2000000 in
theorem restQ_any (t : ByteArray) (a : Option Addr) (n c : Nat) (l : List Reg) (w : World) (h : Recs 4 RegAt w a n c l) (ht : t.size ≤ 9223372036854775807) (hn : n ≤ 1000000) (hok : OkQ t.size l) :
    Calls Try.prog 55 #[.string t, .slice a n c, .bool true] w (StrPost w (restQ t 0 l)) := by
  have hm := h.most
  have hk := h.cap
  have HX := Lib.hid h; have HOK := Lib.hid hok; clear h hok
  go_enter Try.func55, Try.ntmps55
  go_wp2
  go_loopw [7, 8, 9] (fun out at' i wr => ∃ (k : Nat) (a2 : Option Addr) (c2 : Nat) (acc : List ByteArray), k ≤ n ∧ i = .int .i64 k ∧ out = .slice a2 k c2 ∧ at' = .int .i64 (endQ l k) ∧ Hid (Below w.heap.size w wr) ∧ Hid (OwnS 1 scells wr w.heap.size 9 a2 k c2 acc) ∧ Hid (acc ++ restQ t (endQ l k) (l.drop k) = restQ t 0 l)) (fun _ _ i _ => n - (intOf i).toNat)
  case atStart => exact ⟨0, _, 0, [], by omega, rfl, rfl, by rw [endQ_zero]; rfl, (Below.refl _ _).alloc (Nat.le_refl _) _, str_new w, by rw [endQ_zero]; rfl⟩
  case round =>
    obtain ⟨k, a2, c2, acc, hkn, rfl, rfl, rfl, hb, ho, hacc⟩ := hrel
    have hbs := hb.out.size
    have hle := endQ_le HOK.out k
    by_cases hlt : k < n
    · have HR := HX.out.below regStays hb.out
      obtain ⟨r, hr⟩ : ∃ r, l[k]? = some r := ⟨l[k]'(by have := HR.len; omega), List.getElem?_eq_getElem _⟩
      rcases HR.at' with h0 | ⟨b, off, rfl, hbl, hcell⟩
      · omega
      obtain ⟨c0, c1, c2', c3, -, -, -, -⟩ := hcell k r hr
      obtain ⟨o1, o2, o3, o4⟩ := HOK.out k r hr
      have hst := restQ_step (t := t) hr
      have hsu := endQ_succ hr
      have HST := Lib.hid hst; have HSU := Lib.hid hsu
      clear HR hcell hst hsu
      obtain ⟨rfp, rtp, rfq, rtq⟩ := r
      dsimp only at c0 c1 c2' c3 o1 o2 o3 o4 HST HSU
      obtain ⟨f, rfl⟩ := Int.eq_ofNat_of_zero_le o2
      obtain ⟨u, rfl⟩ := Int.eq_ofNat_of_zero_le (show 0 ≤ rtq by omega)
      rw [Int.toNat_natCast] at HST HSU
      have o5 : endQ l k ≤ f := by omega
      have o6 : f ≤ t.size := by omega
      have hsu' := HSU.out
      have HN : Hid ((acc ++ [t.extract (endQ l k) f]) ++ restQ t (endQ l (k + 1)) (l.drop (k + 1)) = restQ t 0 l) := by
        rw [List.append_assoc]; show acc ++ ([t.extract (endQ l k) f] ++ _) = _
        rw [List.singleton_append, ← HST.out]; exact hacc.out
      rw [hsu'] at HN
      generalize hE : endQ l k = x at HN hle o1 o5 ⊢
      clear hE HST hsu' hacc hr
      go_wp2_with fail
      go_quiet (fail)
      go_wp2_with fail
      go_quiet (fail)
      go_wp2_with (at_builtin; refine wpList_append_s strT (by decide) rfl (.tmp 40) (.tmp 45) rfl w.heap.size rfl ((ho.out.below (below_drewN (Below.refl _ _) _)).below ((Below.refl _ _).alloc (Nat.le_refl _) _)) rfl (t.extract x f) rfl (by simp [scells, Value.oneCell']) (src_new _ (scells (t.extract x f)) 9) (by omega) (by unfold maxLen; omega) (by simp; omega) ?_)
      intro a3 c3' w3 ho3 hb3
      have HO3 := Lib.hid ho3
      have HB3 : Hid (Below w.heap.size w w3) := Lib.hid ((Below.alloc (below_drewN hb.out _) (by simpa using hbs) _).trans hb3)
      clear ho3 hb3
      go_wp2
      go_roundw
      case rel => exact ⟨k + 1, a3, c3', acc ++ [t.extract x f], by omega, by go_num, rfl, by rw [HSU.out], HB3, HO3, by rw [HSU.out]; exact HN⟩
      case measure => simp [intOf]; omega
    · obtain rfl : k = n := by omega
      have hfin := hacc.out
      rw [List.drop_eq_nil_of_le (by have := HX.out.len; omega)] at hfin
      have HF : Hid (acc ++ [t.extract (endQ l k) t.size] = restQ t 0 l) := hfin
      generalize hE : endQ l k = x at HF hle ⊢
      clear hfin hE hacc
      go_wp2_with (at_builtin; refine wpList_append_s strT (by decide) rfl (.tmp 48) (.tmp 52) rfl w.heap.size rfl (ho.out.below ((Below.refl _ _).alloc (Nat.le_refl _) _)) rfl (t.extract x t.size) rfl (by simp [scells, Value.oneCell']) (src_new _ (scells (t.extract x t.size)) 9) (by omega) (by unfold maxLen; omega) (by simp; omega) ?_)
      intro a3 c3' w3 ho3 hb3
      rw [HF.out] at ho3
      have HO3 := Lib.hid ho3
      have HB3 : Hid (Below w.heap.size w w3) := Lib.hid ((hb.out.alloc hbs _).trans hb3)
      clear ho3 hb3
      go_wp2
      go_ret
      exact ⟨a3, _, c3', rfl, HO3.out, HB3.out⟩
end Go.Proofs.Ytcncfljpbbpaoaa.rg
