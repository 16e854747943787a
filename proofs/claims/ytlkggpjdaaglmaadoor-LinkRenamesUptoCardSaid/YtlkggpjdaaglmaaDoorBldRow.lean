/-
  The library's Builder: its methods as rows of the machine of values.
-/
import Derived.Test.YtlkggpjdaaglmaaDoorAmBld
import Derived.Test.YtlkggpjdaaglmaaDoorTd
import Derived.Test.YtlkggpjdaaglmaaDoorShelf
namespace Go.Proofs.YtlkggpjdaaglmaaDoor.am
open Go.Shelf Go.RowKit
variable {P : Program} {ρ : Ren}
set_option maxHeartbeats 1000000 in
set_option maxRecDepth 100000 in
/-- String of a builder that holds a byte: what the world is behind it. -/
theorem string_world (L : Lays.n169 P ρ) (X : Builder.Extra P ρ) {b g cap : Nat} {cur : Array Value} {p : Value} {t : TypeId} {s : ByteArray} {w : World} (h0 : 0 < s.size) (hbk : w.heap[b]? = some (.cells #[p, .slice (some ⟨g, 0, none⟩) s.size cap] t (0, 0))) (hown : w.ownsRow 0 (ρ.t 5) 1 (.slice (some ⟨g, 0, none⟩) s.size cap) s.size (Lib.strCells s)) :
    Calls P (ρ.f 169) #[.pointer (some ⟨b, 0, none⟩)] w fun e w' => e = .returned (.string s) ∧ w' = w.drew.freeze ⟨g, 0, none⟩ s.size := by
  have hx := hown.2
  rcases hx with ⟨k1, _⟩ | ⟨g', cap', cur, k1, _, k3, k4, k5, k6, k7⟩
  · cases k1
  cases k1
  have hl : s.data.toList ≠ [] := fun e => by
    have h1 : s.data.toList.length = 0 := by rw [e]; rfl
    rw [Array.length_toList] at h1
    have : s.data.size = s.size := rfl
    omega
  have hsl : s.data.toList.length = s.size := Array.length_toList
  have c1 : w.drew.cell? ⟨b, 1, none⟩ = some (.slice (some ⟨g, 0, none⟩) s.size cap) := cell_row (w := w.drew) hbk
  have hSD : (Builtin.unsafeSliceData_ #[(ρ.t 37)] (ρ.t 127) #[.slice (some ⟨g, 0, none⟩) s.size cap]).run P w.drew = .ok (.pointer (some ⟨g, 0, none⟩)) w.drew := Lib.run_unsafeSliceData_row _ _ _ _ _ _ (by omega)
  have hUS : (Builtin.unsafeString_ #[(ρ.t 127), (ρ.t 3)] (ρ.t 9) #[.pointer (some ⟨g, 0, none⟩), .int .i64 s.size]).run P w.drew = .ok (.string s) (w.drew.freeze ⟨g, 0, none⟩ s.size) := by
    have key := Lib.run_unsafeString_row w.drew (ρ.t 127) (ρ.t 3) (ρ.t 9) (ρ.t 5) L.t127 X.cellsByte g cur.size (by have hg : w.drew.heap[g]? = some (.cells cur (ρ.t 5) (0, 0)) := k3; simp [World.shape?, hg]) s.data.toList hl (by omega) (by unfold maxLen at k5; omega) (fun j x hj => hown.cells (g := g) rfl j (.int .u8 x.toNat) (by unfold Lib.strCells; rw [List.getElem?_map, hj]; rfl))
    rw [hsl] at key
    exact key
  have mixed := L.mixed
  have t72 := L.t72; have a72 := L.a72; have z72 := L.z72; have v72 := L.v72; have u72 := run_underlying L.t72
  have t70 := L.t70; have a70 := L.a70; have z70 := L.z70; have v70 := L.v70; have u70 := run_underlying L.t70
  have t37 := L.t37; have a37 := L.a37; have z37 := L.z37; have v37 := L.v37; have u37 := run_underlying L.t37
  have t127 := L.t127; have a127 := L.a127; have z127 := L.z127; have v127 := L.v127; have u127 := run_underlying L.t127
  have t3 := L.t3; have a3 := L.a3; have z3 := L.z3; have v3 := L.v3; have u3 := run_underlying L.t3
  have t9 := L.t9; have a9 := L.a9; have z9 := L.z9; have v9 := L.v9; have u9 := run_underlying L.t9
  have t5 := X.t5; have a5 := X.a5; have z5 := X.z5; have v5 := X.v5; have u5 := run_underlying X.t5
  clear k4 k5 k6 k7 hl h0
  go_enter L.f169, Body.n169_ntmps ρ
  go_wp2
  go_region_o
  all_goals (go_wp2; go_ret; exact ⟨rfl, rfl⟩)
end Go.Proofs.YtlkggpjdaaglmaaDoor.am
namespace Go.Proofs.YtlkggpjdaaglmaaDoor.am
open Go.ChangeShapes Go.WideShapes Go.ChangeAt Go.RowKit
set_option linter.unusedVariables false
set_option linter.unusedSimpArgs false
theorem td_bldr : td Tryd.prog 51 = some ⟨true, 2, 32, [.lit (.pointer none), .nilS], [(0, 1, false), (1, 1, false)], .struct⟩ := Eq.trans (by kernel_rfl) (Eq.refl _)
theorem td_bldrp : td Tryd.prog 48 = some ⟨false, 1, 8, [.lit (.pointer none)], [], (.pointer 51)⟩ := Eq.trans (by kernel_rfl) (Eq.refl _)
theorem td_u8s : td Tryd.prog 49 = some ⟨false, 1, 24, [.nilS], [], (.slice 5)⟩ := Eq.trans (by kernel_rfl) (Eq.refl _)
theorem td_u8 : td Tryd.prog 5 = some ⟨false, 1, 1, [.lit (.int .u8 0)], [], (.int .u8)⟩ := Eq.trans (by kernel_rfl) (Eq.refl _)
attribute [simp] td_bldr td_bldrp td_u8s td_u8
theorem copyK : CopyK Tryd.prog 40 51 where
  used := fun b w h => Any.Builder_copyCheck_used (ρ := Tryd.lays165_ren) { Tryd.lays165 with } Tryd.Builder_Extra_165.toX72 b w h
  fresh := fun b w h1 h2 h3 => Any.Builder_copyCheck_fresh (ρ := Tryd.lays165_ren) { Tryd.lays165 with } Tryd.Builder_Extra_165.toX72 b w h1 h2 h3
theorem strK : StrK Tryd.prog 25 51 5 where
  emp := fun b p v xs w hb ho => by
    rcases ho.2 with ⟨k1, _⟩ | ⟨g, cap, cur, k1, _, k3, k4, k5, k6, k7⟩
    · subst k1
      exact Any.Builder_String_nil Tryd.lays169 Tryd.Builder_Extra_169 w.heap.size b p w hb
    · subst k1
      by_cases h0 : cap = 0
      · subst h0
        exact Any.Builder_String_noroom Tryd.lays169 Tryd.Builder_Extra_169 w.heap.size b g p cur w (Nat.le_refl _) hb k3
      · exact Any.Builder_String_room Tryd.lays169 Tryd.Builder_Extra_169 w.heap.size b g cap p w h0 hb
  yes := fun b g cap cur p t s w h0 hb ho => string_world Tryd.lays169 Tryd.Builder_Extra_169 (cur := cur) h0 hb ho
set_option maxRecDepth 100000 in
set_option maxHeartbeats 4000000 in
theorem bcopy_row (l : List (List PV)) : Row Tryd.prog 40 [.v (.c (.ptr 0 0))] [.bld 51 (.row 1 1 l), .row 5 1] (.tup []) [some (.bld 51 (.row 1 1 l)), some (.row 5 1)] :=
  ⟨⟨_, Tryd.func40, rfl, rfl⟩, copy_spec copyK _ l⟩
/-- A builder that holds the bytes of a text, and its slice, at the name 1. -/
abbrev bld (i : Nat) (s : ByteArray) : AO := .bld 51 (.row i 1 (bL s))
abbrev brw : AO := .row 5 1
set_option maxRecDepth 100000 in
set_option maxHeartbeats 4000000 in
theorem bstring_row (s : ByteArray) : Row Tryd.prog 25 [.v (.c (.ptr 0 0))] [bld 1 s, brw] (.v (.c (.pv (.lit (.string s))))) [some (bld 1 s), none] :=
  ⟨⟨_, Tryd.func25, rfl, rfl⟩, string_spec strK s⟩
set_option maxRecDepth 100000 in
set_option maxHeartbeats 4000000 in
theorem bwrite_row (a s : ByteArray) (h : a.size + s.size ≤ 140737488355328) : Row Tryd.prog 23 [.v (.c (.ptr 0 0)), .v (.c (.pv (.lit (.string s))))] [bld 1 a, brw] (.tup [.c (.pv (.lit (.int .i64 s.size))), .c (.pv (.lit .nilIface))]) [some (bld 2 (a ++ s)), none, some brw] := by
  have hl : (bL a).length + s.size ≤ 140737488355328 := by rw [bL_len]; exact h
  refine row_of Tryd.func23 rfl rfl (Nat.le_of_ble_eq_true rfl) ?_
  repeat' (first | refine aw_seq ?_ | refine aw_skip ?_ | refine aw_block ?_ | refine aw_exit ?_ | refine aw_cond rfl (fun _ => ?_) (fun hb => absurd hb (by decide)) | refine aw_cond rfl (fun hb => absurd hb (by decide)) (fun _ => ?_) | (refine aw_reg (fun K hK => ?_); simp -implicitDefEqProofs [hl]) | (refine aw_drw mixd (fun K hK => ?_); simp -implicitDefEqProofs [hl]) | refine hK _ ?_ | refine hK _ _ (by rfl) ?_ | (refine ar_call (cg (bcopy_row (bL a)) [0,1] ?_); simp -implicitDefEqProofs [hl]) | (refine ard_call (dg (bcopy_row (bL a)) [0,1] ?_); simp -implicitDefEqProofs [hl]) | fail)
  repeat (first | refine aw_seq ?_ | refine aw_skip ?_ | refine aw_block ?_ | refine aw_exit ?_ | refine aw_cond rfl (fun _ => ?_) (fun hb => absurd hb (by decide)) | refine aw_cond rfl (fun hb => absurd hb (by decide)) (fun _ => ?_) | (refine aw_reg (fun K hK => ?_); simp -implicitDefEqProofs [hl]; refine hK _ ?_) | (refine aw_drw mixd (fun K hK => ?_); simp -implicitDefEqProofs [hl]; refine hK _ _ (by rfl) ?_) | fail)
  refine aw_ret (fin_g [0, 1, 19] ?_); simp -implicitDefEqProofs [FinG, resV, resT, bL_append] <;> try rfl
set_option maxRecDepth 100000 in
set_option maxHeartbeats 4000000 in
theorem blen_row (a : ByteArray) : Row Tryd.prog 24 [.v (.c (.ptr 0 0))] [bld 1 a, brw] (.v (.c (.pv (.lit (.int .i64 a.size))))) [some (bld 1 a), some brw] := by
  have hl : ((bL a).length : Int) = a.size := by rw [bL_len]
  refine row_of Tryd.func24 rfl rfl (Nat.le_of_ble_eq_true rfl) ?_
  repeat (first | refine aw_seq ?_ | refine aw_skip ?_ | refine aw_block ?_ | refine aw_exit ?_ | refine aw_cond rfl (fun _ => ?_) (fun hb => absurd hb (by decide)) | refine aw_cond rfl (fun hb => absurd hb (by decide)) (fun _ => ?_) | (refine aw_reg (fun K hK => ?_); simp -implicitDefEqProofs; refine hK _ ?_) | (refine aw_drw mixd (fun K hK => ?_); simp -implicitDefEqProofs; refine hK _ _ (by rfl) ?_) | fail)
  refine aw_ret (fin_g [0, 1] ?_); simp -implicitDefEqProofs [FinG, resV, resT, hl] <;> try rfl
end Go.Proofs.YtlkggpjdaaglmaaDoor.am
