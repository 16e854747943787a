/-
  Layer 12: the document's Shaped.
-/
import Derived.Test.YtpdicfekhghfeaaTypRec
namespace Go.Proofs.Ytpdicfekhghfeaa.ty
open Go.ChangeShapes Go.WideShapes Go.ChangeAt Go.RowKit
open bs tr te
set_option linter.unusedVariables false

def ShP (v : VT) (w : World) (e : Ending) (w' : World) : Prop := ∃ r : Bool, e = .returned (.bool r) ∧ (r = true → v.lab.k = 30 ∧ v.kids ≠ [] ∧ ∀ p ∈ v.kids, Fld p) ∧ (r = false → v.lab.k ≠ 30 ∨ v.kids = [] ∨ ∃ p ∈ v.kids, ¬ Fld p) ∧ Below w.heap.size w w'

set_option maxRecDepth 100000 in
set_option maxHeartbeats 4000000 in
theorem shaped_any (v : Vn) (w : World) (hv : v.Rd w) : Calls Try.prog 29 #[v.val] w (ShP v.tr w) := by
  have hW1 : Below w.heap.size w (w.alloc (.cells #[.int .i64 v.x.k, .int .i64 v.x.n, .string v.x.s, .slice v.a v.m v.c, .int .i64 v.x.f, .int .i64 v.x.t] 24)) := ((Below.refl _ _).alloc (Nat.le_refl _) _)
  have hX : VB (w.alloc (.cells #[.int .i64 v.x.k, .int .i64 v.x.n, .string v.x.s, .slice v.a v.m v.c, .int .i64 v.x.f, .int .i64 v.x.t] 24)) w.heap.size v := vb_new w v
  have HW := Lib.hid hW1; have HX := Lib.hid hX; have HV := Lib.hid (hv.below hW1); have HLN := Lib.hid hv.1.len
  have hcap := hv.1.cap; have hmost := hv.1.most
  clear hv hW1 hX
  unfold Vn.val
  go_enter Try.func29, Try.ntmps29
  go_upto_region 1 with fail
  generalize hWW : (w.alloc (.cells #[.int .i64 v.x.k, .int .i64 v.x.n, .string v.x.s, .slice v.a v.m v.c, .int .i64 v.x.f, .int .i64 v.x.t] 24)) = W at HW HX HV ⊢
  clear hWW
  have p0 := HX.out.cell 0
  have p1 := HX.out.cell 3
  simp at p0 p1
  by_cases hk : v.x.k = 30
  · have e0 : (v.x.k != 30) = false := by rw [hk]; rfl
    have HK := Lib.hid hk
    clear hk
    by_cases hm : v.m = 0
    · have e1 : ((v.m : Int) == 0) = true := by rw [beq_iff_eq]; omega
      have HM := Lib.hid hm
      clear hm
      go_wp2
      go_ret
      refine ⟨false, rfl, fun h => (by cases h), fun _ => .inr (.inl (List.length_eq_zero_iff.1 ?_)), HW.out⟩
      show v.l.length = 0
      rw [HLN.out, HM.out]
    · have e1 : ((v.m : Int) == 0) = false := by rw [beq_eq_false_iff_ne]; omega
      have HM := Lib.hid hm
      clear hm
      go_wp2_with fail
      go_loopw [3] (fun i wr => ∃ (k d : Nat), k ≤ v.m ∧ i = .int .i64 k ∧ wr = W.drewN d ∧ Hid (∀ p ∈ v.l.take k, Fld p)) (fun i _ => v.m - (intOf i).toNat)
      case atStart => exact ⟨0, 0, by omega, rfl, rfl, Lib.hid (by intro p hp; simp at hp)⟩
      case round =>
        obtain ⟨k, d, hk, rfl, rfl, HF⟩ := hrel
        by_cases hlt : k < v.m
        · obtain ⟨b2, o2, x2, ha2, hb2, hx2, hc2⟩ := recs_at HV.out.1 (k := k) hlt
          obtain ⟨v1, hv1, hr1, c10, c11, c12, c13, c14, c15⟩ := VA.out hc2
          rw [ha2] at p1
          have hl1 := hr1.1.len
          have hx3 : v.l.take (k + 1) = v.l.take k ++ [v1.tr] := by rw [List.take_add_one, hx2, hv1]; rfl
          have hmem : v1.tr ∈ v.l := by rw [hv1]; exact List.mem_of_getElem? hx2
          have HMEM := Lib.hid hmem; have HX3 := Lib.hid hx3; have HL1 := Lib.hid hl1
          clear hv1 hr1 hc2 ha2 hx2 hx3 hmem hl1
          have HBd := Lib.hid (below_drewN HW.out d)
          by_cases hk1 : v1.x.k = 34
          · have e2 : (v1.x.k != 34) = false := by rw [hk1]; rfl
            have HK1 := Lib.hid hk1
            clear hk1
            by_cases hm1 : v1.m = 1
            · have e3 : ((v1.m : Int) != 1) = false := by rw [hm1]; rfl
              have hf : Fld v1.tr := ⟨HK1.out, by show v1.l.length = 1; rw [HL1.out, hm1]⟩
              have HFD := Lib.hid hf
              clear hm1 hf
              go_wp2
              go_roundw
              case rel => exact ⟨k + 1, d, by omega, by go_num, rfl, Lib.hid (by
                rw [HX3.out]
                intro p hp
                rcases List.mem_append.1 hp with hp | hp
                · exact HF.out p hp
                · rw [List.mem_singleton.1 hp]; exact HFD.out)⟩
              case measure => simp [intOf]; omega
            · have e3 : ((v1.m : Int) != 1) = true := by rw [bne_iff_ne]; omega
              have hf : ¬ Fld v1.tr := fun h => hm1 (by have h2 : v1.l.length = 1 := h.2; rw [← h2, HL1.out])
              have HFD := Lib.hid hf
              clear hm1 hf
              go_wp2
              go_ret
              exact ⟨false, rfl, fun h => (by cases h), fun _ => .inr (.inr ⟨v1.tr, HMEM.out, HFD.out⟩), HBd.out⟩
          · have e2 : (v1.x.k != 34) = true := by rw [bne_iff_ne]; exact hk1
            have hf : ¬ Fld v1.tr := fun h => hk1 h.1
            have HFD := Lib.hid hf
            clear hk1 hf
            go_wp2
            go_ret
            exact ⟨false, rfl, fun h => (by cases h), fun _ => .inr (.inr ⟨v1.tr, HMEM.out, HFD.out⟩), HBd.out⟩
        · have hkm : k = v.m := by omega
          have HBd := Lib.hid (below_drewN HW.out d)
          have hf : ∀ p ∈ v.l, Fld p := by
            have := HF.out
            rwa [List.take_of_length_le (by have := HLN.out; omega)] at this
          have HFD := Lib.hid hf
          clear hf
          go_wp2
          go_ret
          refine ⟨true, rfl, fun _ => ⟨HK.out, fun h => HM.out ?_, HFD.out⟩, fun h => (by cases h), HBd.out⟩
          have h2 : v.l = [] := h
          have := HLN.out
          rw [h2] at this
          exact this.symm
  · have e0 : (v.x.k != 30) = true := by rw [bne_iff_ne]; exact hk
    have HK := Lib.hid hk
    clear hk
    go_wp2
    go_ret
    exact ⟨false, rfl, fun h => (by cases h), fun _ => .inl HK.out, HW.out⟩
end Go.Proofs.Ytpdicfekhghfeaa.ty
