import Derived.Test.YtlkggpjdaaglmaaGreatDoorPkB8
import Derived.Test.YtlkggpjdaaglmaaGreatDoorPkB12
import Derived.Shelf.Strings.Builder1
import Derived.Shelf.Strings.Builder2
import Derived.Shelf.Strings.OnBuilder
import Derived.Shelf.Strconv.Itoa0
import Derived.Shelf.Strconv.Itoa1
import Derived.Shelf.LaysM
import Derived.Shelf.Strconv.Itoa2
import Derived.Shelf.Strconv.Itoa3
import Derived.Shelf.Strconv.Itoa4
import Derived.Shelf.Strconv.ParseIntEmpty
import Derived.Shelf.Strconv.Clone
import Derived.Shelf.Strconv.SyntaxError
import Derived.Shelf.LaysC
import Derived.Shelf.Strconv.ToError
import Derived.Shelf.Strconv.Lower
import Derived.Shelf.Strconv.ParseUint10
import Derived.Shelf.Strconv.ParseUint10Empty
import Derived.Shelf.Strconv.ParseUint10Any
import Derived.Shelf.Strconv.ParseInt10
import Derived.Shelf.Strconv.RangeError
import Derived.Shelf.Strconv.ToErrorRange
import Derived.Shelf.Strconv.ParseUintEmpty
import Derived.Shelf.Strconv.ParseUint10b64
import Derived.Shelf.Strconv.ParseUint10b32
import Derived.Shelf.Strconv.ParseUint10b16
import Derived.Shelf.Strconv.ParseUint10b8
import Derived.Shelf.Strconv.ParseUint10At
import Derived.Shelf.Strconv.ParseInt10At64
import Derived.Shelf.Strconv.ParseInt10At32
import Derived.Shelf.Strconv.ParseInt10At16
import Derived.Shelf.Strconv.ParseInt10At8
import Derived.Shelf.Strconv.ParseInt10All
import Derived.Shelf.Strconv.ParseIntPublic10
import Derived.Shelf.Strconv.ErrVarParseInt
import Derived.Test.YtlkggpjdaaglmaaGreatDoorProg
import Derived.Lib.LaidTab
import Derived.Deep.RegionHeld3
import Derived.Lib.AppendIntMem
import Derived.Test.YtlkggpjdaaglmaaGreatDoorPkB7
import Derived.Test.YtlkggpjdaaglmaaGreatDoorPkB6
section
namespace Go.Proofs.YtlkggpjdaaglmaaGreatDoor.am
open Go.ChangeShapes Go.WideShapes Go.ChangeAt Go.RowKit
open vt
set_option linter.unusedVariables false
set_option linter.unusedSimpArgs false
theorem td_prn : td Tryz.prog 77 = some ⟨true, 1, 24, [.nilS], [(0, 1, false)], .struct⟩ := Eq.trans (by kernel_rfl) (Eq.refl _)
theorem td_pprn : td Tryz.prog 52 = some ⟨false, 1, 8, [.lit (.pointer none)], [], (.pointer 77)⟩ := Eq.trans (by kernel_rfl) (Eq.refl _)
theorem td_pstrs : td Tryz.prog 75 = some ⟨false, 1, 24, [.nilS], [], (.slice 9)⟩ := Eq.trans (by kernel_rfl) (Eq.refl _)
attribute [simp] td_prn td_pprn td_pstrs
abbrev ws (L : List ByteArray) : List (List PV) := L.map fun s => [Sx s]
abbrev vWs (W : List ByteArray) : AV := .v (.c (.pv (.sl 1 (ws W))))
abbrev rwS : AO := .row 9 1
abbrev PRow (LL : List (Nat × Array Value)) (f : Nat) (args : List AV) (L W : List ByteArray) : Prop := Row Tryz.prog f (.v (.c (.ptr 0 0)) :: args) [bxW 1 (ws L), rwS, .lib LL] (.tup []) [some (bxW 3 (ws (L ++ W))), none, some (.lib LL), some rwS]
set_option maxRecDepth 100000 in
set_option maxHeartbeats 4000000 in
theorem put_row (LL : List (Nat × Array Value)) (L W : List ByteArray) (h : L.length + W.length ≤ 1000000) : PRow LL 41 [vWs W] L W := by
  have b1 : (L.length + W.length) * 16 ≤ 140737488355328 := by omega
  have b2 : L.length + W.length ≤ 140737488355328 := by omega
  refine row_of Tryz.func41 rfl rfl (Nat.le_of_ble_eq_true rfl) ?_
  repeat (first | refine aw_seq ?_ | refine aw_skip ?_ | refine aw_block ?_ | refine aw_exit ?_ | refine aw_ct rfl ?_ | refine aw_cf rfl ?_ | ((first | refine aw_reg (fun K hK => ?_) | refine aw_drw mixd (fun K hK => ?_) | fail); simp -implicitDefEqProofs [b1, b2]; first | refine hK _ ?_ | refine hK _ _ (by rfl) ?_ | fail) | fail)
  refine fin_fall (fin_gw rfl ?_); simp -implicitDefEqProofs [FinG, resV, resT] <;> try rfl
set_option maxRecDepth 100000 in
set_option maxHeartbeats 4000000 in
theorem part_row (x : Lab) (l : List VT) (i : Nat) (y : VT) (h : l[i]? = some y) (hi : i ≤ 9) : Row Tryz.prog 46 [vT (.mk x l), vI (i : Nat)] [] (vT y) [] := by
  have h1 := (List.getElem?_eq_some_iff.1 h).1
  have h2 := (List.getElem?_eq_some_iff.1 h).2
  have h3 : (i : Int) < l.length := by omega
  obtain ⟨⟨yk, yn, ys, yf, yt⟩, yl⟩ := y
  refine row_of Tryz.func46 rfl rfl (Nat.le_of_ble_eq_true rfl) ?_
  repeat (first | refine aw_seq ?_ | refine aw_skip ?_ | refine aw_block ?_ | refine aw_exit ?_ | refine aw_ct rfl ?_ | refine aw_cf rfl ?_ | ((first | refine aw_reg (fun K hK => ?_) | refine aw_drw mixd (fun K hK => ?_) | fail); simp -implicitDefEqProofs [h, h1, h2, h3]; first | refine hK _ ?_ | refine hK _ _ (by rfl) ?_ | fail) | fail)
  refine aw_ret (fin_ret ?_); simp -implicitDefEqProofs [FinP, resV, resT] <;> try rfl
set_option maxRecDepth 100000 in
set_option maxHeartbeats 4000000 in
theorem poper_row (n : Int) (h1 : 1 ≤ n) (h2 : n ≤ 13) : Row Tryz.prog 118 [vI n] [] (.tup [.c (.pv (Sx (opB n).1)), .c (.pv (I (opB n).2))]) [] := by
  have : n = 1 ∨ n = 2 ∨ n = 3 ∨ n = 4 ∨ n = 5 ∨ n = 6 ∨ n = 7 ∨ n = 8 ∨ n = 9 ∨ n = 10 ∨ n = 11 ∨ n = 12 ∨ n = 13 := by omega
  rcases this with rfl | rfl | rfl | rfl | rfl | rfl | rfl | rfl | rfl | rfl | rfl | rfl | rfl
  all_goals
    refine row_of Tryz.func118 rfl rfl (Nat.le_of_ble_eq_true rfl) ?_
    repeat (first | refine aw_seq ?_ | refine aw_skip ?_ | refine aw_block ?_ | refine aw_exit ?_ | refine aw_ct rfl ?_ | refine aw_cf rfl ?_ | ((first | refine aw_reg (fun K hK => ?_) | refine aw_drw mixd (fun K hK => ?_) | fail); simp -implicitDefEqProofs; first | refine hK _ ?_ | refine hK _ _ (by rfl) ?_ | fail) | fail)
    refine aw_ret (fin_ret ?_); simp -implicitDefEqProofs [FinP, resV, resT, opB] <;> try rfl
set_option maxRecDepth 100000 in
set_option maxHeartbeats 4000000 in
theorem bind_row (x : Lab) (l : List VT) (hx : Opd x) : Row Tryz.prog 119 [vT (.mk x l)] [] (vI (tgh x)) [] := by
  by_cases c : x.k = 10
  · have e := poper_row x.n (hx c).1 (hx c).2
    have t : tgh x = (opB x.n).2 := by unfold tgh; rw [if_pos c]
    rw [t]
    refine row_of Tryz.func119 rfl rfl (Nat.le_of_ble_eq_true rfl) ?_
    repeat' (first | refine aw_seq ?_ | refine aw_skip ?_ | refine aw_block ?_ | refine aw_exit ?_ | refine aw_ct rfl ?_ | refine aw_cf rfl ?_ | ((first | refine aw_reg (fun K hK => ?_) | refine aw_drw mixd (fun K hK => ?_) | refine ar_call (cp e ?_) | refine ard_call (dp e ?_) | fail); simp -implicitDefEqProofs [c]) | refine hK _ ?_ | refine hK _ _ (by rfl) ?_ | fail)
    refine aw_ret (fin_ret ?_); simp -implicitDefEqProofs [FinP, resV, resT] <;> try rfl
  · by_cases c2 : x.k = 11
    · have t : tgh x = 6 := by unfold tgh; rw [if_neg c, if_pos c2]
      rw [t]
      refine row_of Tryz.func119 rfl rfl (Nat.le_of_ble_eq_true rfl) ?_
      repeat (first | refine aw_seq ?_ | refine aw_skip ?_ | refine aw_block ?_ | refine aw_exit ?_ | refine aw_ct rfl ?_ | refine aw_cf rfl ?_ | ((first | refine aw_reg (fun K hK => ?_) | refine aw_drw mixd (fun K hK => ?_) | fail); simp -implicitDefEqProofs [c, c2]; first | refine hK _ ?_ | refine hK _ _ (by rfl) ?_ | fail) | fail)
      refine aw_ret (fin_ret ?_); simp -implicitDefEqProofs [FinP, resV, resT] <;> try rfl
    · have t : tgh x = 7 := by unfold tgh; rw [if_neg c, if_neg c2]
      rw [t]
      refine row_of Tryz.func119 rfl rfl (Nat.le_of_ble_eq_true rfl) ?_
      repeat (first | refine aw_seq ?_ | refine aw_skip ?_ | refine aw_block ?_ | refine aw_exit ?_ | refine aw_ct rfl ?_ | refine aw_cf rfl ?_ | ((first | refine aw_reg (fun K hK => ?_) | refine aw_drw mixd (fun K hK => ?_) | fail); simp -implicitDefEqProofs [c, c2]; first | refine hK _ ?_ | refine hK _ _ (by rfl) ?_ | fail) | fail)
      refine aw_ret (fin_ret ?_); simp -implicitDefEqProofs [FinP, resV, resT] <;> try rfl
end Go.Proofs.YtlkggpjdaaglmaaGreatDoor.am
end
section
namespace Go.Proofs
open Go.Shelf
def Tryz.lays169_ren : Go.Shelf.Ren := ⟨fun | 169 => 19 | n => n, fun | 70 => 41 | 9 => 9 | 0 => 0 | 72 => 44 | 37 => 42 | 127 => 83 | 3 => 3 | 5 => 5 | n => n, fun | n => n⟩
theorem Tryz.lays169 : Go.Proofs.Lays.n169 Tryz.prog Tryz.lays169_ren := {
  mixed := by kernel_rfl
  f169 := Tryz.func19.trans (congrArg some (by kernel_rfl))
  t0 := Tryz.underlying0
  a0 := Tryz.isAgg0
  z0 := Tryz.sizeOf0
  v0 := Tryz.zeroValue0
  t3 := Tryz.underlying3
  a3 := Tryz.isAgg3
  z3 := Tryz.sizeOf3
  v3 := Tryz.zeroValue3
  t9 := Tryz.underlying9
  a9 := Tryz.isAgg9
  z9 := Tryz.sizeOf9
  v9 := Tryz.zeroValue9
  t37 := Tryz.underlying42
  a37 := Tryz.isAgg42
  z37 := Tryz.sizeOf42
  v37 := Tryz.zeroValue42
  t70 := Tryz.underlying41
  a70 := Tryz.isAgg41
  z70 := Tryz.sizeOf41
  v70 := Tryz.zeroValue41
  t72 := Tryz.underlying44
  a72 := Tryz.isAgg44
  z72 := Tryz.sizeOf44
  v72 := Tryz.zeroValue44
  t127 := Tryz.underlying83
  a127 := Tryz.isAgg83
  z127 := Tryz.sizeOf83
  v127 := Tryz.zeroValue83 }
theorem Tryz.Builder_Extra_169 : Builder.Extra Tryz.prog Tryz.lays169_ren := {
  sizeBuilder := by kernel_rfl
  liesBuilder := by kernel_rfl
  t5 := Tryz.underlying5
  a5 := Tryz.isAgg5
  z5 := Tryz.sizeOf5
  v5 := Tryz.zeroValue5
  infoByte := by kernel_rfl
  cellsByte := by kernel_rfl
  sizeByte := by kernel_rfl
  neB5 := by decide }
def Tryz.lays165_ren : Go.Shelf.Ren := ⟨fun | 165 => 78 | 240 => 39 | 241 => 116 | 276 => 77 | 277 => 135 | n => n, fun | 70 => 41 | 3 => 3 | 0 => 0 | 4 => 4 | 9 => 9 | 20 => 20 | 72 => 44 | 37 => 42 | 164 => 106 | 5 => 5 | n => n, fun | n => n⟩
theorem Tryz.lays165 : Go.Proofs.Lays.n165 Tryz.prog Tryz.lays165_ren := {
  mixed := by kernel_rfl
  f165 := Tryz.func78.trans (congrArg some (by kernel_rfl))
  f240 := Tryz.func39.trans (congrArg some (by kernel_rfl))
  f241 := Tryz.func116.trans (congrArg some (by kernel_rfl))
  f276 := Tryz.func77.trans (congrArg some (by kernel_rfl))
  f277 := Tryz.func135.trans (congrArg some (by kernel_rfl))
  t0 := Tryz.underlying0
  a0 := Tryz.isAgg0
  z0 := Tryz.sizeOf0
  v0 := Tryz.zeroValue0
  t3 := Tryz.underlying3
  a3 := Tryz.isAgg3
  z3 := Tryz.sizeOf3
  v3 := Tryz.zeroValue3
  t4 := Tryz.underlying4
  a4 := Tryz.isAgg4
  z4 := Tryz.sizeOf4
  v4 := Tryz.zeroValue4
  t9 := Tryz.underlying9
  a9 := Tryz.isAgg9
  z9 := Tryz.sizeOf9
  v9 := Tryz.zeroValue9
  t20 := Tryz.underlying20
  a20 := Tryz.isAgg20
  z20 := Tryz.sizeOf20
  v20 := Tryz.zeroValue20
  t37 := Tryz.underlying42
  a37 := Tryz.isAgg42
  z37 := Tryz.sizeOf42
  v37 := Tryz.zeroValue42
  t70 := Tryz.underlying41
  a70 := Tryz.isAgg41
  z70 := Tryz.sizeOf41
  v70 := Tryz.zeroValue41
  t72 := Tryz.underlying44
  a72 := Tryz.isAgg44
  z72 := Tryz.sizeOf44
  v72 := Tryz.zeroValue44
  t164 := Tryz.underlying106
  a164 := Tryz.isAgg106
  z164 := Tryz.sizeOf106
  v164 := Tryz.zeroValue106 }
theorem Tryz.Builder_Extra_165 : Builder.Extra Tryz.prog Tryz.lays165_ren := {
  sizeBuilder := by kernel_rfl
  liesBuilder := by kernel_rfl
  t5 := Tryz.underlying5
  a5 := Tryz.isAgg5
  z5 := Tryz.sizeOf5
  v5 := Tryz.zeroValue5
  infoByte := by kernel_rfl
  cellsByte := by kernel_rfl
  sizeByte := by kernel_rfl
  neB5 := by decide }
def Tryz.lays156_ren : Go.Shelf.Ren := ⟨fun | 156 => 40 | 165 => 78 | 166 => 15 | 169 => 19 | 240 => 39 | 241 => 116 | 276 => 77 | 277 => 135 | n => n, fun | 31 => 75 | 9 => 9 | 3 => 3 | 4 => 4 | 0 => 0 | 20 => 20 | 72 => 44 | 76 => 47 | 70 => 41 | 37 => 42 | 75 => 46 | 127 => 83 | 164 => 106 | 5 => 5 | 80 => 54 | n => n, fun | n => n⟩
theorem Tryz.lays156 : Go.Proofs.Lays.n156 Tryz.prog Tryz.lays156_ren := {
  mixed := by kernel_rfl
  f156 := Tryz.func40.trans (congrArg some (by kernel_rfl))
  f165 := Tryz.func78.trans (congrArg some (by kernel_rfl))
  f166 := Tryz.func15.trans (congrArg some (by kernel_rfl))
  f169 := Tryz.func19.trans (congrArg some (by kernel_rfl))
  f240 := Tryz.func39.trans (congrArg some (by kernel_rfl))
  f241 := Tryz.func116.trans (congrArg some (by kernel_rfl))
  f276 := Tryz.func77.trans (congrArg some (by kernel_rfl))
  f277 := Tryz.func135.trans (congrArg some (by kernel_rfl))
  t0 := Tryz.underlying0
  a0 := Tryz.isAgg0
  z0 := Tryz.sizeOf0
  v0 := Tryz.zeroValue0
  t3 := Tryz.underlying3
  a3 := Tryz.isAgg3
  z3 := Tryz.sizeOf3
  v3 := Tryz.zeroValue3
  t4 := Tryz.underlying4
  a4 := Tryz.isAgg4
  z4 := Tryz.sizeOf4
  v4 := Tryz.zeroValue4
  t9 := Tryz.underlying9
  a9 := Tryz.isAgg9
  z9 := Tryz.sizeOf9
  v9 := Tryz.zeroValue9
  t20 := Tryz.underlying20
  a20 := Tryz.isAgg20
  z20 := Tryz.sizeOf20
  v20 := Tryz.zeroValue20
  t31 := Tryz.underlying75
  a31 := Tryz.isAgg75
  z31 := Tryz.sizeOf75
  v31 := Tryz.zeroValue75
  t37 := Tryz.underlying42
  a37 := Tryz.isAgg42
  z37 := Tryz.sizeOf42
  v37 := Tryz.zeroValue42
  t70 := Tryz.underlying41
  a70 := Tryz.isAgg41
  z70 := Tryz.sizeOf41
  v70 := Tryz.zeroValue41
  t72 := Tryz.underlying44
  a72 := Tryz.isAgg44
  z72 := Tryz.sizeOf44
  v72 := Tryz.zeroValue44
  t75 := Tryz.underlying46
  a75 := Tryz.isAgg46
  z75 := Tryz.sizeOf46
  v75 := Tryz.zeroValue46
  t76 := Tryz.underlying47
  a76 := Tryz.isAgg47
  z76 := Tryz.sizeOf47
  v76 := Tryz.zeroValue47
  t127 := Tryz.underlying83
  a127 := Tryz.isAgg83
  z127 := Tryz.sizeOf83
  v127 := Tryz.zeroValue83
  t164 := Tryz.underlying106
  a164 := Tryz.isAgg106
  z164 := Tryz.sizeOf106
  v164 := Tryz.zeroValue106 }
theorem Tryz.Builder_Extra_156 : Builder.Extra Tryz.prog Tryz.lays156_ren := {
  sizeBuilder := by kernel_rfl
  liesBuilder := by kernel_rfl
  t5 := Tryz.underlying5
  a5 := Tryz.isAgg5
  z5 := Tryz.sizeOf5
  v5 := Tryz.zeroValue5
  infoByte := by kernel_rfl
  cellsByte := by kernel_rfl
  sizeByte := by kernel_rfl
  neB5 := by decide }
open Go.RowKit in
theorem Tryz.strings_Join (bk o c : Nat) (xs : List ByteArray) (sep : ByteArray) (w : World) (hcells : ∀ (j : Nat) x, xs[j]? = some x → w.cell? ⟨bk, o + j, none⟩ = some (.string x)) (hbk : bk < w.heap.size) (hN : xs.length ≤ 140737488355328) (hcap : xs.length ≤ c) (hlen : (Lib.join (xs.map (·.data.toList)) sep.data.toList).length ≤ 140737488355328) :
    Calls Tryz.prog 40 #[.slice (some ⟨bk, o, none⟩) xs.length c, .string sep] w fun e w' => e = .returned (.string ⟨(Lib.join (xs.map (·.data.toList)) sep.data.toList).toArray⟩) ∧ Below w.heap.size w w' := Any.strings_Join Tryz.lays156 Tryz.Builder_Extra_156 bk o c xs sep w hcells hbk hN hcap hlen
def Tryz.laysM173_ren : Go.Shelf.Ren := ⟨fun | 173 => 136 | 246 => 145 | 283 => 153 | 284 => 154 | 285 => 155 | 286 => 156 | 129 => 169 | 317 => 168 | 318 => 170 | 319 => 171 | 320 => 172 | 337 => 175 | 338 => 176 | n => n, fun | 2 => 2 | 3 => 3 | 9 => 9 | 4 => 4 | 171 => 159 | 0 => 0 | 53 => 150 | 37 => 42 | 5 => 5 | 173 => 162 | 212 => 171 | 51 => 172 | 20 => 20 | 213 => 173 | 46 => 153 | 232 => 180 | 233 => 181 | n => n, fun | 17 => 3 | 18 => 4 | 19 => 5 | n => n⟩
theorem Tryz.laysM173 : Go.Proofs.LaysM.n173 Tryz.prog Tryz.laysM173_ren := {
  mixed := by kernel_rfl
  f129 := Tryz.func169.trans (congrArg some (by kernel_rfl))
  f173 := Tryz.func136.trans (congrArg some (by kernel_rfl))
  f246 := Tryz.func145.trans (congrArg some (by kernel_rfl))
  f283 := Tryz.func153.trans (congrArg some (by kernel_rfl))
  f284 := Tryz.func154.trans (congrArg some (by kernel_rfl))
  f285 := Tryz.func155.trans (congrArg some (by kernel_rfl))
  f286 := Tryz.func156.trans (congrArg some (by kernel_rfl))
  f317 := Tryz.func168.trans (congrArg some (by kernel_rfl))
  f318 := Tryz.func170.trans (congrArg some (by kernel_rfl))
  f319 := Tryz.func171.trans (congrArg some (by kernel_rfl))
  f320 := Tryz.func172.trans (congrArg some (by kernel_rfl))
  f337 := Tryz.func175.trans (congrArg some (by kernel_rfl))
  f338 := Tryz.func176.trans (congrArg some (by kernel_rfl))
  t0 := Tryz.underlying0
  a0 := Tryz.isAgg0
  z0 := Tryz.sizeOf0
  v0 := Tryz.zeroValue0
  t2 := Tryz.underlying2
  a2 := Tryz.isAgg2
  z2 := Tryz.sizeOf2
  v2 := Tryz.zeroValue2
  t3 := Tryz.underlying3
  a3 := Tryz.isAgg3
  z3 := Tryz.sizeOf3
  v3 := Tryz.zeroValue3
  t4 := Tryz.underlying4
  a4 := Tryz.isAgg4
  z4 := Tryz.sizeOf4
  v4 := Tryz.zeroValue4
  t5 := Tryz.underlying5
  a5 := Tryz.isAgg5
  z5 := Tryz.sizeOf5
  v5 := Tryz.zeroValue5
  t9 := Tryz.underlying9
  a9 := Tryz.isAgg9
  z9 := Tryz.sizeOf9
  v9 := Tryz.zeroValue9
  t20 := Tryz.underlying20
  a20 := Tryz.isAgg20
  z20 := Tryz.sizeOf20
  v20 := Tryz.zeroValue20
  t37 := Tryz.underlying42
  a37 := Tryz.isAgg42
  z37 := Tryz.sizeOf42
  v37 := Tryz.zeroValue42
  t46 := Tryz.underlying153
  a46 := Tryz.isAgg153
  z46 := Tryz.sizeOf153
  v46 := Tryz.zeroValue153
  t51 := Tryz.underlying172
  a51 := Tryz.isAgg172
  z51 := Tryz.sizeOf172
  v51 := Tryz.zeroValue172
  t53 := Tryz.underlying150
  a53 := Tryz.isAgg150
  z53 := Tryz.sizeOf150
  v53 := Tryz.zeroValue150
  t171 := Tryz.underlying159
  a171 := Tryz.isAgg159
  z171 := Tryz.sizeOf159
  v171 := Tryz.zeroValue159
  t173 := Tryz.underlying162
  a173 := Tryz.isAgg162
  z173 := Tryz.sizeOf162
  v173 := Tryz.zeroValue162
  t212 := Tryz.underlying171
  a212 := Tryz.isAgg171
  z212 := Tryz.sizeOf171
  v212 := Tryz.zeroValue171
  t213 := Tryz.underlying173
  a213 := Tryz.isAgg173
  z213 := Tryz.sizeOf173
  t232 := Tryz.underlying180
  a232 := Tryz.isAgg180
  z232 := Tryz.sizeOf180
  v232 := Tryz.zeroValue180
  t233 := Tryz.underlying181
  a233 := Tryz.isAgg181
  z233 := Tryz.sizeOf181
  v233 := Tryz.zeroValue181
  g17 := by kernel_rfl
  g18 := by kernel_rfl
  g19 := by kernel_rfl
  i0 := by kernel_rfl
  i2 := by kernel_rfl
  i3 := by kernel_rfl
  i4 := by kernel_rfl
  i5 := by kernel_rfl
  i9 := by kernel_rfl
  i20 := by kernel_rfl
  i37 := by kernel_rfl
  i46 := by kernel_rfl
  i51 := by kernel_rfl
  i53 := by kernel_rfl
  i171 := by kernel_rfl
  i173 := by kernel_rfl
  i212 := by kernel_rfl
  i232 := by kernel_rfl
  i233 := by kernel_rfl
  m17 := by kernel_rfl
  m18 := by kernel_rfl
  m19 := by kernel_rfl }
open Go.RowKit Go.Sort Go.Lib in
theorem Tryz.strconv_FormatInt_10 (n : Int) (h0 : -9223372036854775808 ≤ n) (h1 : n ≤ 9223372036854775807) (w : World) (htab : Lib.TabIs Tryz.prog w "internal/strconv.uint64pow10" .u64 Lib.pow10Tab) :
    Calls Tryz.prog 136 #[.int .i64 n, .int .i64 10] w fun e w' => e = .returned (.string ⟨(Lib.itoa n).toArray⟩) ∧ ∃ k os, w' = grow (w.drewN k) os := Any.strconv_FormatInt_10 Tryz.laysM173 n h0 h1 w htab
def Tryz.laysC174_ren : Go.Shelf.Ren := ⟨fun | 174 => 125 | 247 => 139 | 245 => 140 | 287 => 146 | 279 => 147 | 280 => 148 | 281 => 149 | 282 => 150 | 321 => 157 | 322 => 158 | 316 => 159 | 171 => 161 | 205 => 160 | 243 => 173 | 246 => 145 | 283 => 153 | 284 => 154 | 285 => 155 | 286 => 156 | 129 => 169 | 317 => 168 | 318 => 170 | 319 => 171 | 320 => 172 | 337 => 175 | 338 => 176 | n => n, fun | 9 => 9 | 3 => 3 | 2 => 2 | 75 => 46 | 85 => 125 | 4 => 4 | 167 => 149 | 5 => 5 | 53 => 150 | 175 => 151 | 46 => 153 | 168 => 154 | 37 => 42 | 0 => 0 | 210 => 167 | 21 => 21 | 127 => 83 | 145 => 178 | 143 => 176 | 171 => 159 | 173 => 162 | 212 => 171 | 51 => 172 | 20 => 20 | 213 => 173 | 232 => 180 | 233 => 181 | 80 => 54 | n => n, fun | 15 => 1 | 16 => 2 | 17 => 3 | 18 => 4 | 19 => 5 | n => n⟩
theorem Tryz.laysC174 : Go.Proofs.LaysC.n174 Tryz.prog Tryz.laysC174_ren := {
  mixed := by kernel_rfl
  f129 := Tryz.func169.trans (congrArg some (by kernel_rfl))
  f171 := Tryz.func161.trans (congrArg some (by kernel_rfl))
  f174 := Tryz.func125.trans (congrArg some (by kernel_rfl))
  f205 := Tryz.func160.trans (congrArg some (by kernel_rfl))
  f243 := Tryz.func173.trans (congrArg some (by kernel_rfl))
  f245 := Tryz.func140.trans (congrArg some (by kernel_rfl))
  f246 := Tryz.func145.trans (congrArg some (by kernel_rfl))
  f247 := Tryz.func139.trans (congrArg some (by kernel_rfl))
  f279 := Tryz.func147.trans (congrArg some (by kernel_rfl))
  f280 := Tryz.func148.trans (congrArg some (by kernel_rfl))
  f281 := Tryz.func149.trans (congrArg some (by kernel_rfl))
  f282 := Tryz.func150.trans (congrArg some (by kernel_rfl))
  f283 := Tryz.func153.trans (congrArg some (by kernel_rfl))
  f284 := Tryz.func154.trans (congrArg some (by kernel_rfl))
  f285 := Tryz.func155.trans (congrArg some (by kernel_rfl))
  f286 := Tryz.func156.trans (congrArg some (by kernel_rfl))
  f287 := Tryz.func146.trans (congrArg some (by kernel_rfl))
  f316 := Tryz.func159.trans (congrArg some (by kernel_rfl))
  f317 := Tryz.func168.trans (congrArg some (by kernel_rfl))
  f318 := Tryz.func170.trans (congrArg some (by kernel_rfl))
  f319 := Tryz.func171.trans (congrArg some (by kernel_rfl))
  f320 := Tryz.func172.trans (congrArg some (by kernel_rfl))
  f321 := Tryz.func157.trans (congrArg some (by kernel_rfl))
  f322 := Tryz.func158.trans (congrArg some (by kernel_rfl))
  f337 := Tryz.func175.trans (congrArg some (by kernel_rfl))
  f338 := Tryz.func176.trans (congrArg some (by kernel_rfl))
  t0 := Tryz.underlying0
  a0 := Tryz.isAgg0
  z0 := Tryz.sizeOf0
  v0 := Tryz.zeroValue0
  t2 := Tryz.underlying2
  a2 := Tryz.isAgg2
  z2 := Tryz.sizeOf2
  v2 := Tryz.zeroValue2
  t3 := Tryz.underlying3
  a3 := Tryz.isAgg3
  z3 := Tryz.sizeOf3
  v3 := Tryz.zeroValue3
  t4 := Tryz.underlying4
  a4 := Tryz.isAgg4
  z4 := Tryz.sizeOf4
  v4 := Tryz.zeroValue4
  t5 := Tryz.underlying5
  a5 := Tryz.isAgg5
  z5 := Tryz.sizeOf5
  v5 := Tryz.zeroValue5
  t9 := Tryz.underlying9
  a9 := Tryz.isAgg9
  z9 := Tryz.sizeOf9
  v9 := Tryz.zeroValue9
  t20 := Tryz.underlying20
  a20 := Tryz.isAgg20
  z20 := Tryz.sizeOf20
  v20 := Tryz.zeroValue20
  t21 := Tryz.underlying21
  a21 := Tryz.isAgg21
  z21 := Tryz.sizeOf21
  v21 := Tryz.zeroValue21
  t37 := Tryz.underlying42
  a37 := Tryz.isAgg42
  z37 := Tryz.sizeOf42
  v37 := Tryz.zeroValue42
  t46 := Tryz.underlying153
  a46 := Tryz.isAgg153
  z46 := Tryz.sizeOf153
  v46 := Tryz.zeroValue153
  t51 := Tryz.underlying172
  a51 := Tryz.isAgg172
  z51 := Tryz.sizeOf172
  v51 := Tryz.zeroValue172
  t53 := Tryz.underlying150
  a53 := Tryz.isAgg150
  z53 := Tryz.sizeOf150
  v53 := Tryz.zeroValue150
  t75 := Tryz.underlying46
  a75 := Tryz.isAgg46
  z75 := Tryz.sizeOf46
  v75 := Tryz.zeroValue46
  t85 := Tryz.underlying125
  a85 := Tryz.isAgg125
  z85 := Tryz.sizeOf125
  v85 := Tryz.zeroValue125
  t127 := Tryz.underlying83
  a127 := Tryz.isAgg83
  z127 := Tryz.sizeOf83
  v127 := Tryz.zeroValue83
  t143 := Tryz.underlying176
  a143 := Tryz.isAgg176
  z143 := Tryz.sizeOf176
  v143 := Tryz.zeroValue176
  t145 := Tryz.underlying178
  a145 := Tryz.isAgg178
  z145 := Tryz.sizeOf178
  v145 := Tryz.zeroValue178
  t167 := Tryz.underlying149
  a167 := Tryz.isAgg149
  z167 := Tryz.sizeOf149
  v167 := Tryz.zeroValue149
  t168 := Tryz.underlying154
  a168 := Tryz.isAgg154
  z168 := Tryz.sizeOf154
  v168 := Tryz.zeroValue154
  t171 := Tryz.underlying159
  a171 := Tryz.isAgg159
  z171 := Tryz.sizeOf159
  v171 := Tryz.zeroValue159
  t173 := Tryz.underlying162
  a173 := Tryz.isAgg162
  z173 := Tryz.sizeOf162
  v173 := Tryz.zeroValue162
  t175 := Tryz.underlying151
  a175 := Tryz.isAgg151
  z175 := Tryz.sizeOf151
  v175 := Tryz.zeroValue151
  t210 := Tryz.underlying167
  a210 := Tryz.isAgg167
  z210 := Tryz.sizeOf167
  v210 := Tryz.zeroValue167
  t212 := Tryz.underlying171
  a212 := Tryz.isAgg171
  z212 := Tryz.sizeOf171
  v212 := Tryz.zeroValue171
  t213 := Tryz.underlying173
  a213 := Tryz.isAgg173
  z213 := Tryz.sizeOf173
  t232 := Tryz.underlying180
  a232 := Tryz.isAgg180
  z232 := Tryz.sizeOf180
  v232 := Tryz.zeroValue180
  t233 := Tryz.underlying181
  a233 := Tryz.isAgg181
  z233 := Tryz.sizeOf181
  v233 := Tryz.zeroValue181
  g15 := by kernel_rfl
  g16 := by kernel_rfl
  g17 := by kernel_rfl
  g18 := by kernel_rfl
  g19 := by kernel_rfl
  t80 := Tryz.underlying54
  a80 := Tryz.isAgg54
  z80 := Tryz.sizeOf54
  v80 := Tryz.zeroValue54
  i0 := by kernel_rfl
  i2 := by kernel_rfl
  i3 := by kernel_rfl
  i4 := by kernel_rfl
  i5 := by kernel_rfl
  i9 := by kernel_rfl
  i20 := by kernel_rfl
  i21 := by kernel_rfl
  i37 := by kernel_rfl
  i46 := by kernel_rfl
  i51 := by kernel_rfl
  i53 := by kernel_rfl
  i75 := by kernel_rfl
  i80 := by kernel_rfl
  i85 := by kernel_rfl
  i127 := by kernel_rfl
  i143 := by kernel_rfl
  i145 := by kernel_rfl
  i167 := by kernel_rfl
  i168 := by kernel_rfl
  i171 := by kernel_rfl
  i173 := by kernel_rfl
  i175 := by kernel_rfl
  i210 := by kernel_rfl
  i212 := by kernel_rfl
  i232 := by kernel_rfl
  i233 := by kernel_rfl
  m15 := by kernel_rfl
  m16 := by kernel_rfl
  m17 := by kernel_rfl
  m18 := by kernel_rfl
  m19 := by kernel_rfl
  c0 := by kernel_rfl
  c2 := by kernel_rfl
  c3 := by kernel_rfl
  c4 := by kernel_rfl
  c5 := by kernel_rfl
  c9 := by kernel_rfl
  c20 := by kernel_rfl
  c21 := by kernel_rfl
  c37 := by kernel_rfl
  c46 := by kernel_rfl
  c51 := by kernel_rfl
  c53 := by kernel_rfl
  c75 := by kernel_rfl
  c80 := by kernel_rfl
  c85 := by kernel_rfl
  c127 := by kernel_rfl
  c143 := by kernel_rfl
  c145 := by kernel_rfl
  c167 := by kernel_rfl
  c168 := by kernel_rfl
  c171 := by kernel_rfl
  c173 := by kernel_rfl
  c175 := by kernel_rfl
  c210 := by kernel_rfl
  c212 := by kernel_rfl
  c213 := by kernel_rfl
  c232 := by kernel_rfl
  c233 := by kernel_rfl }
open Go.RowKit in
theorem Tryz.strconv_ParseInt_10_at64_ok (s : ByteArray) (hmax : s.size ≤ 9223372036854775806) (v : Int) (h : Lib.parseIntB 64 s.data.toList = .ok v) (w : World) :
    Calls Tryz.prog 125 #[.string s, .int .i64 10, .int .i64 64] w fun e w' => e = .returned (.tuple #[.int .i64 v, .nilIface]) ∧ (w' = w ∨ ∃ t, w' = Lib.bytesWorld w 5 t) := Any.strconv_ParseInt_10_at64_ok Tryz.laysC174 s hmax v h w
open Go.RowKit in
theorem Tryz.strconv_ParseInt_10_at64_range_var (s : ByteArray) (hlim : s.size ≤ 281474976710656) (h : Lib.parseIntB 64 s.data.toList = .range) (tp : TypeId) (p : Value) (w : World) (hvar : w.var? Tryz.prog "strconv.ErrRange" = some #[.iface tp p]) :
    Calls Tryz.prog 125 #[.string s, .int .i64 10, .int .i64 64] w fun e w' => ∃ N, e = .returned (.tuple #[.int .i64 (Lib.intSat 64 s.data.toList), .iface 154 (.pointer (some ⟨N, 0, none⟩))]) ∧ w.heap.size ≤ N ∧ w'.heap[N]? = some (.cells #[.string ⟨#[80, 97, 114, 115, 101, 73, 110, 116]⟩, .string s, .iface tp p] 167 (0, 0)) ∧ Below w.heap.size w w' := Any.strconv_ParseInt_10_at64_range_var Tryz.laysC174 s hlim h tp p w hvar
end Go.Proofs
end
section
namespace Go.Proofs.YtlkggpjdaaglmaaGreatDoor.lx
open Go.ChangeShapes Go.WideShapes Go.ChangeAt Go.RowKit
open bs
set_option linter.unusedVariables false
theorem digits_own (n : Int) (w : World) (hT : Lib.TabIs Tryz.prog w "internal/strconv.uint64pow10" .u64 Lib.pow10Tab) (h0 : -9223372036854775808 ≤ n) (h1 : n ≤ 9223372036854775807) : Calls Tryz.prog 117 #[.int .i64 n] w fun e w' => e = .returned (.string (numT n)) ∧ Below w.heap.size w w' := by
  have HC := Lib.hid (Tryz.strconv_FormatInt_10 n h0 h1 w hT)
  clear hT
  go_enter Tryz.func117, Tryz.ntmps117
  go_wp2_with fail
  refine (HC.out).mono ?_
  rintro e w' ⟨rfl, k, os, rfl⟩
  have HB := Lib.hid (Lib.below_grow w.heap.size w (Nat.le_refl _) k os)
  generalize Go.Sort.grow (w.drewN k) os = W at HB ⊢
  go_wp2
  go_ret
  exact ⟨rfl, HB.out⟩
end Go.Proofs.YtlkggpjdaaglmaaGreatDoor.lx
namespace Go.Proofs.YtlkggpjdaaglmaaGreatDoor.am
open Go.ChangeShapes Go.WideShapes Go.ChangeAt Go.RowKit
set_option linter.unusedVariables false
def LibN (L : List (Nat × Array Value)) : Prop := (3, (Lib.pow10Tab.map fun z => Value.int .u64 z).toArray) ∈ L
theorem n_tabN : Tryz.prog.globalNamed "internal/strconv.uint64pow10" = some 3 := by kernel_rfl
theorem tab_of_lib {L : List (Nat × Array Value)} (hL : LibN L) {γ : Nat → G} {S : CS} {w : World} {x : Nat} (h : Obj' γ S w x (.lib L)) : Lib.TabIs Tryz.prog w "internal/strconv.uint64pow10" .u64 Lib.pow10Tab := lib_var h n_tabN hL (by decide)
end Go.Proofs.YtlkggpjdaaglmaaGreatDoor.am
end
section
namespace Go.Proofs.YtlkggpjdaaglmaaGreatDoor.am
open Go.ChangeShapes Go.WideShapes Go.ChangeAt Go.RowKit
open vt
set_option linter.unusedVariables false
set_option linter.unusedSimpArgs false
theorem digits_row (LL : List (Nat × Array Value)) (hLL : LibN LL) (n : Int) (h0 : -9223372036854775808 ≤ n) (h1 : n ≤ 9223372036854775807) : Row Tryz.prog 117 [vI n] [.lib LL] (vS (wNum n)) [some (.lib LL)] := by
  refine ⟨⟨_, Tryz.func117, rfl, rfl⟩, spec_of_below fun γ S w vs hm hv => ?_⟩
  match vs, hv with
  | [v0], ⟨k0, _⟩ =>
    obtain ⟨rfl, _⟩ := lit_inv k0
    refine (lx.digits_own n w (tab_of_lib hLL (hm.obj 0 _ rfl)) h0 h1).mono ?_
    rintro e w' ⟨rfl, hb⟩
    exact ⟨_, rfl, hb, .lit _ rfl⟩
set_option maxRecDepth 100000 in
set_option maxHeartbeats 4000000 in
theorem spelln_row (LL : List (Nat × Array Value)) (s : ByteArray) : Row Tryz.prog 79 [vK ⟨1, 0, s, 0, 0⟩] [.lib LL] (vS s) [some (.lib LL)] := by
  refine row_of Tryz.func79 rfl rfl (Nat.le_of_ble_eq_true rfl) ?_
  repeat (first | refine aw_seq ?_ | refine aw_skip ?_ | refine aw_block ?_ | refine aw_exit ?_ | refine aw_ct rfl ?_ | refine aw_cf rfl ?_ | ((first | refine aw_reg (fun K hK => ?_) | refine aw_drw mixd (fun K hK => ?_) | fail); simp -implicitDefEqProofs; first | refine hK _ ?_ | refine hK _ _ (by rfl) ?_ | fail) | fail)
  refine aw_ret (fin_box ?_); simp -implicitDefEqProofs [FinB, resV, resT] <;> try rfl
set_option maxRecDepth 100000 in
set_option maxHeartbeats 4000000 in
theorem spelld_row (LL : List (Nat × Array Value)) (hLL : LibN LL) (n : Int) (h0 : -9223372036854775808 ≤ n) (h1 : n ≤ 9223372036854775807) : Row Tryz.prog 79 [vK ⟨2, n, ⟨#[]⟩, 0, 0⟩] [.lib LL] (vS (wNum n)) [some (.lib LL)] := by
  have e := digits_row LL hLL n h0 h1
  refine row_of Tryz.func79 rfl rfl (Nat.le_of_ble_eq_true rfl) ?_
  repeat' (first | refine aw_seq ?_ | refine aw_skip ?_ | refine aw_block ?_ | refine aw_exit ?_ | refine aw_ct rfl ?_ | refine aw_cf rfl ?_ | ((first | refine aw_reg (fun K hK => ?_) | refine aw_drw mixd (fun K hK => ?_) | refine ar_call (cb e 0 ?_) | refine ard_call (db e 0 ?_) | fail); simp -implicitDefEqProofs) | refine hK _ ?_ | refine hK _ _ (by rfl) ?_ | fail)
  refine aw_ret (fin_box ?_); simp -implicitDefEqProofs [FinB, resV, resT] <;> try rfl
set_option maxRecDepth 100000 in
set_option maxHeartbeats 4000000 in
theorem name_row (LL : List (Nat × Array Value)) (L : List ByteArray) (s : ByteArray) (h : L.length + 1 ≤ 1000000) : PRow LL 42 [vS s] L [s] := by
  have e := spelln_row LL s
  have p := put_row LL L [s] h
  refine row_of Tryz.func42 rfl rfl (Nat.le_of_ble_eq_true rfl) ?_
  repeat' (first | refine aw_seq ?_ | refine aw_skip ?_ | refine aw_block ?_ | refine aw_exit ?_ | refine aw_ct rfl ?_ | refine aw_cf rfl ?_ | ((first | refine aw_reg (fun K hK => ?_) | refine aw_drw mixd (fun K hK => ?_) | refine ar_call (cb e 2 ?_) | refine ard_call (db e 2 ?_) | refine ar_call (cgw p 0 2 rfl ?_) | refine ard_call (dgw p 0 2 rfl ?_) | fail); simp -implicitDefEqProofs) | refine hK _ ?_ | refine hK _ _ (by rfl) ?_ | fail)
  refine fin_fall (fin_gw rfl ?_); simp -implicitDefEqProofs [FinG, resV, resT] <;> try rfl
set_option maxRecDepth 100000 in
set_option maxHeartbeats 4000000 in
theorem number_row (LL : List (Nat × Array Value)) (hLL : LibN LL) (L : List ByteArray) (n : Int) (h0 : -9223372036854775808 ≤ n) (h1 : n ≤ 9223372036854775807) (h : L.length + 1 ≤ 1000000) : PRow LL 63 [vI n] L [wNum n] := by
  have e := spelld_row LL hLL n h0 h1
  have p := put_row LL L [wNum n] h
  refine row_of Tryz.func63 rfl rfl (Nat.le_of_ble_eq_true rfl) ?_
  repeat' (first | refine aw_seq ?_ | refine aw_skip ?_ | refine aw_block ?_ | refine aw_exit ?_ | refine aw_ct rfl ?_ | refine aw_cf rfl ?_ | ((first | refine aw_reg (fun K hK => ?_) | refine aw_drw mixd (fun K hK => ?_) | refine ar_call (cb e 2 ?_) | refine ard_call (db e 2 ?_) | refine ar_call (cgw p 0 2 rfl ?_) | refine ard_call (dgw p 0 2 rfl ?_) | fail); simp -implicitDefEqProofs) | refine hK _ ?_ | refine hK _ _ (by rfl) ?_ | fail)
  refine fin_fall (fin_gw rfl ?_); simp -implicitDefEqProofs [FinG, resV, resT] <;> try rfl
set_option maxRecDepth 100000 in
set_option maxHeartbeats 4000000 in
theorem ptyp_row (LL : List (Nat × Array Value)) (hLL : LibN LL) {t : VT} {W : List ByteArray} (hW : WTp t W) : ∀ L : List ByteArray, L.length + W.length ≤ 1000000 → PRow LL 28 [vT t] L W := by
  induction hW with
  | int x h =>
    intro L hL
    have p := put_row LL L [wInt] hL
    refine row_of Tryz.func28 rfl rfl (Nat.le_of_ble_eq_true rfl) ?_
    repeat' (first | refine aw_seq ?_ | refine aw_skip ?_ | refine aw_block ?_ | refine aw_exit ?_ | refine aw_ct rfl ?_ | refine aw_cf rfl ?_ | ((first | refine aw_reg (fun K hK => ?_) | refine aw_drw mixd (fun K hK => ?_) | refine ar_call (cgw p 0 2 rfl ?_) | refine ard_call (dgw p 0 2 rfl ?_) | fail); simp -implicitDefEqProofs [h]) | refine hK _ ?_ | refine hK _ _ (by rfl) ?_ | fail)
    refine fin_fall (fin_gw rfl ?_); simp -implicitDefEqProofs [FinG, resV, resT] <;> try rfl
  | bool x h =>
    intro L hL
    have p := put_row LL L [wBool] hL
    refine row_of Tryz.func28 rfl rfl (Nat.le_of_ble_eq_true rfl) ?_
    repeat' (first | refine aw_seq ?_ | refine aw_skip ?_ | refine aw_block ?_ | refine aw_exit ?_ | refine aw_ct rfl ?_ | refine aw_cf rfl ?_ | ((first | refine aw_reg (fun K hK => ?_) | refine aw_drw mixd (fun K hK => ?_) | refine ar_call (cgw p 0 2 rfl ?_) | refine ard_call (dgw p 0 2 rfl ?_) | fail); simp -implicitDefEqProofs [h]) | refine hK _ ?_ | refine hK _ _ (by rfl) ?_ | fail)
    refine fin_fall (fin_gw rfl ?_); simp -implicitDefEqProofs [FinG, resV, resT] <;> try rfl
  | rec' x h hs =>
    intro L hL
    have p := name_row LL L x.s hL
    refine row_of Tryz.func28 rfl rfl (Nat.le_of_ble_eq_true rfl) ?_
    repeat' (first | refine aw_seq ?_ | refine aw_skip ?_ | refine aw_block ?_ | refine aw_exit ?_ | refine aw_ct rfl ?_ | refine aw_cf rfl ?_ | ((first | refine aw_reg (fun K hK => ?_) | refine aw_drw mixd (fun K hK => ?_) | refine ar_call (cgw p 0 2 rfl ?_) | refine ard_call (dgw p 0 2 rfl ?_) | fail); simp -implicitDefEqProofs [h]) | refine hK _ ?_ | refine hK _ _ (by rfl) ?_ | fail)
    refine fin_fall (fin_gw rfl ?_); simp -implicitDefEqProofs [FinG, resV, resT] <;> try rfl
  | arr x a al A h h0 h1 ha ih =>
    intro L hL
    simp only [List.length_append, List.length_cons, List.length_nil] at hL
    have p1 := put_row LL L [sOpen] (by simp; omega)
    have p2 := number_row LL hLL (L ++ [sOpen]) x.n h0 h1 (by simp; omega)
    have p3 := put_row LL (L ++ [sOpen] ++ [wNum x.n]) [sShut] (by simp; omega)
    have p4 := ih (L ++ [sOpen] ++ [wNum x.n] ++ [sShut]) (by simp; omega)
    have q := part_row x [.mk a al] 0 (.mk a al) rfl (by omega)
    refine row_of Tryz.func28 rfl rfl (Nat.le_of_ble_eq_true rfl) ?_
    repeat' (first | refine aw_seq ?_ | refine aw_skip ?_ | refine aw_block ?_ | refine aw_exit ?_ | refine aw_ct rfl ?_ | refine aw_cf rfl ?_ | ((first | refine aw_reg (fun K hK => ?_) | refine aw_drw mixd (fun K hK => ?_) | refine ar_call (cgw p1 0 2 rfl ?_) | refine ard_call (dgw p1 0 2 rfl ?_) | refine ar_call (cgw p2 0 2 rfl ?_) | refine ard_call (dgw p2 0 2 rfl ?_) | refine ar_call (cgw p3 0 2 rfl ?_) | refine ard_call (dgw p3 0 2 rfl ?_) | refine ar_call (cp q ?_) | refine ard_call (dp q ?_) | refine ar_call (cgw p4 0 2 rfl ?_) | refine ard_call (dgw p4 0 2 rfl ?_) | fail); simp -implicitDefEqProofs [h]) | refine hK _ ?_ | refine hK _ _ (by rfl) ?_ | fail)
    refine fin_fall (fin_gw rfl ?_); simp -implicitDefEqProofs [FinG, resV, resT] <;> try rfl
end Go.Proofs.YtlkggpjdaaglmaaGreatDoor.am
end
section
namespace Go.Proofs.YtlkggpjdaaglmaaGreatDoor.am
open Go.ChangeShapes Go.WideShapes Go.ChangeAt Go.RowKit
open vt
set_option linter.unusedVariables false
set_option linter.unusedSimpArgs false
set_option maxRecDepth 100000 in
set_option maxHeartbeats 4000000 in
theorem operand_row (LL : List (Nat × Array Value)) (x : Lab) (l : List VT) (A : List ByteArray) (hx : Opd x) (n : Int) (hA : A ≠ []) (he : ∀ L : List ByteArray, L.length + 3 * A.length ≤ 1000000 → PRow LL 45 [vT (.mk x l)] L A) (L : List ByteArray) (hL : L.length + 3 * (par (tgh x) A n).length ≤ 1000000) : PRow LL 83 [vT (.mk x l), vI n] L (par (tgh x) A n) := by
  have eb := bind_row x l hx
  have hA := List.length_pos_iff.2 hA
  by_cases c : n ≤ tgh x
  · have t : par (tgh x) A n = A := by unfold par; rw [if_pos c]
    rw [t] at hL ⊢
    have p1 := he L hL
    generalize tgh x = b at eb c
    refine row_of Tryz.func83 rfl rfl (Nat.le_of_ble_eq_true rfl) ?_
    repeat' (first | refine aw_seq ?_ | refine aw_skip ?_ | refine aw_block ?_ | refine aw_exit ?_ | refine aw_ct rfl ?_ | refine aw_cf rfl ?_ | ((first | refine aw_reg (fun K hK => ?_) | refine aw_drw mixd (fun K hK => ?_) | refine ar_call (cp eb ?_) | refine ard_call (dp eb ?_) | refine ar_call (cgw p1 0 2 rfl ?_) | refine ard_call (dgw p1 0 2 rfl ?_) | fail); simp -implicitDefEqProofs [c]) | refine hK _ ?_ | refine hK _ _ (by rfl) ?_ | fail)
    refine aw_ret (fin_gw rfl ?_); simp -implicitDefEqProofs [FinG, resV, resT] <;> try rfl
  · have t : par (tgh x) A n = [sParO] ++ A ++ [sParS] := by unfold par; rw [if_neg c]
    rw [t] at hL ⊢
    simp only [List.length_append, List.length_cons, List.length_nil] at hL
    have p1 := put_row LL L [sParO] (by simp; omega)
    have p2 := he (L ++ [sParO]) (by simp; omega)
    have p3 := put_row LL (L ++ [sParO] ++ A) [sParS] (by simp; omega)
    have e : L ++ ([sParO] ++ A ++ [sParS]) = L ++ [sParO] ++ A ++ [sParS] := by simp
    show Row _ _ _ _ _ [some (bxW 3 (ws (L ++ ([sParO] ++ A ++ [sParS])))), _, _, _]
    rw [e]
    generalize tgh x = b at eb c
    refine row_of Tryz.func83 rfl rfl (Nat.le_of_ble_eq_true rfl) ?_
    repeat' (first | refine aw_seq ?_ | refine aw_skip ?_ | refine aw_block ?_ | refine aw_exit ?_ | refine aw_ct rfl ?_ | refine aw_cf rfl ?_ | ((first | refine aw_reg (fun K hK => ?_) | refine aw_drw mixd (fun K hK => ?_) | refine ar_call (cp eb ?_) | refine ard_call (dp eb ?_) | refine ar_call (cgw p1 0 2 rfl ?_) | refine ard_call (dgw p1 0 2 rfl ?_) | refine ar_call (cgw p2 0 2 rfl ?_) | refine ard_call (dgw p2 0 2 rfl ?_) | refine ar_call (cgw p3 0 2 rfl ?_) | refine ard_call (dgw p3 0 2 rfl ?_) | fail); simp -implicitDefEqProofs [c]) | refine hK _ ?_ | refine hK _ _ (by rfl) ?_ | fail)
    refine fin_fall (fin_gw rfl ?_); simp -implicitDefEqProofs [FinG, resV, resT] <;> try rfl
set_option maxRecDepth 100000 in
set_option maxHeartbeats 4000000 in
theorem pplist_row (LL : List (Nat × Array Value)) (g : Nat) (sep : ByteArray) (l : List VT) (Ws : List (List ByteArray)) (hl : l.length = Ws.length) (hn : l.length ≤ 1000000) (he : ∀ (i : Nat) t W, l[i]? = some t → Ws[i]? = some W → ∀ L : List ByteArray, L.length + 3 * W.length ≤ 1000000 → PRow LL g [vT t] L W) (L : List ByteArray) (hL : L.length + 3 * (pre (if sep = ⟨#[]⟩ then [] else [sep]) Ws).length ≤ 1000000) : PRow LL 43 [vLs l, vS sep, .v (.c (.fn (.func g) [.ptr 0 0] []))] L (pre (if sep = ⟨#[]⟩ then [] else [sep]) Ws) := by
  obtain ⟨S, hS⟩ : ∃ S, (if sep = ⟨#[]⟩ then [] else [sep]) = S := ⟨_, rfl⟩
  rw [hS] at hL ⊢
  have hpre := pre_len (sep := S) (Ws := Ws)
  have hstep := fun k W h => pre_take (sep := S) (Ws := Ws) (k := k) (W := W) h
  have h0 : pre S [] = [] := rfl
  have hend : pre S (Ws.take Ws.length) = pre S Ws := by rw [List.take_length]
  refine row_of Tryz.func43 rfl rfl (Nat.le_of_ble_eq_true rfl) ?_
  refine aw_mvr 1 0 0 _ 9 1 1 (ws L) rfl rfl rfl (show 1 < 3 by decide) (show 0 < 3 by decide) ?_
  simp [St.mvr]
  repeat (first | refine aw_seq ?_ | refine aw_skip ?_ | refine aw_block ?_ | refine aw_exit ?_ | refine aw_ct rfl ?_ | refine aw_cf rfl ?_ | ((first | refine aw_reg (fun K hK => ?_) | refine aw_drw mixd (fun K hK => ?_) | fail); simp -implicitDefEqProofs; first | refine hK _ ?_ | refine hK _ _ (by rfl) ?_ | fail) | fail)
  refine aw_lp (ι := Nat) (fun k => mkSt [(0, .v (.c (.ptr 0 0))), (2, vS sep), (3, .v (.c (.fn (.func g) [.ptr 0 0] []))), (10, vLs l), (11, vI (l.length : Nat)), (12, vI (k : Nat))] [some (bxW 3 (ws (L ++ pre S (Ws.take k)))), none, some (.lib LL), some rwS]) (fun k => k ≤ l.length) (fun k => l.length - k) 0 (Nat.zero_le _) (cov_w rfl (by simp -implicitDefEqProofs [h0]) (by simp -implicitDefEqProofs [h0]) (by decide) rfl (by simp)) (fun Z hI k hk => ?_)
  by_cases hkl : k < l.length; rotate_left
  · have hke : k = Ws.length := by omega
    subst hke
    rw [hend]
    have hlt : ¬ Ws.length < l.length := by omega
    repeat (first | refine aw_seq ?_ | refine aw_skip ?_ | refine aw_block ?_ | refine aw_exit ?_ | refine aw_ct rfl ?_ | refine aw_cf rfl ?_ | ((first | refine aw_reg (fun K hK => ?_) | refine aw_drw mixd (fun K hK => ?_) | fail); simp -implicitDefEqProofs [hlt]; first | refine hK _ ?_ | refine hK _ _ (by rfl) ?_ | fail) | fail)
    refine fin_fall (fin_gw rfl ?_); simp -implicitDefEqProofs [FinG, resV, resT] <;> try rfl
  obtain ⟨⟨ux, ul⟩, hu⟩ : ∃ a, l[k]? = some a := ⟨_, List.getElem?_eq_getElem hkl⟩
  have hu' := (List.getElem?_eq_some_iff.1 hu).2
  obtain ⟨W, hW⟩ : ∃ a, Ws[k]? = some a := ⟨_, List.getElem?_eq_getElem (by omega)⟩
  have hs := hstep k W hW
  have hp1 := hpre (k + 1) (by omega)
  have hp0 := hpre k (by omega)
  have w2 : IntKind.i64.wrap ((k : Nat) + 1 : Int) = (k : Nat) + 1 := i64i _ (by omega) (by omega)
  rw [hs] at hp1
  have nx : Z (k + 1) = mkSt [(0, .v (.c (.ptr 0 0))), (2, vS sep), (3, .v (.c (.fn (.func g) [.ptr 0 0] []))), (10, vLs l), (11, vI (l.length : Nat)), (12, vI ((k + 1 : Nat) : Int))] [some (bxW 3 (ws (L ++ (pre S (Ws.take k) ++ ((if k = 0 then [] else S) ++ W))))), none, some (.lib LL), some rwS] := by rw [hI, hs]
  clear hI hs hstep hpre hend
  generalize pre S (Ws.take k) = P0 at *
  rw [List.length_append, List.length_append] at hp1
  by_cases hk0 : (if k = 0 then [] else S) = []
  · rw [hk0, List.nil_append] at nx
    have q := he k (.mk ux ul) W hu hW (L ++ P0) (by rw [List.length_append]; omega)
    by_cases hkz : k = 0
    · have hkp : ¬ 0 < k := by omega
      clear hkz
      repeat' (first | refine aw_seq ?_ | refine aw_skip ?_ | refine aw_block ?_ | refine aw_exit ?_ | refine aw_ct rfl ?_ | refine aw_cf rfl ?_ | ((first | refine aw_reg (fun K hK => ?_) | refine aw_drw mixd (fun K hK => ?_) | refine ar_call (cgw q 0 2 rfl ?_) | refine ard_call (dgw q 0 2 rfl ?_) | fail); simp -implicitDefEqProofs [hkl, hu, hu', hkp, w2]) | refine hK _ ?_ | refine hK _ _ (by rfl) ?_ | fail)
      refine ⟨k + 1, by omega, (by dsimp only; omega), ?_⟩; rw [nx]; exact cov_w rfl (by simp -implicitDefEqProofs) (by simp -implicitDefEqProofs) (by decide) rfl (by simp)
    · have hsp : sep = ⟨#[]⟩ := by
        rw [if_neg hkz] at hk0
        by_cases e : sep = ⟨#[]⟩
        · exact e
        · rw [if_neg e] at hS; rw [← hS] at hk0; cases hk0
      have hkp : 0 < k := by omega
      repeat' (first | refine aw_seq ?_ | refine aw_skip ?_ | refine aw_block ?_ | refine aw_exit ?_ | refine aw_ct rfl ?_ | refine aw_cf rfl ?_ | ((first | refine aw_reg (fun K hK => ?_) | refine aw_drw mixd (fun K hK => ?_) | refine ar_call (cgw q 0 2 rfl ?_) | refine ard_call (dgw q 0 2 rfl ?_) | fail); simp -implicitDefEqProofs [hkl, hu, hu', hsp, hkp, w2]) | refine hK _ ?_ | refine hK _ _ (by rfl) ?_ | fail)
      refine ⟨k + 1, by omega, (by dsimp only; omega), ?_⟩; rw [nx]; exact cov_w rfl (by simp -implicitDefEqProofs [hsp]) (by simp -implicitDefEqProofs [hsp]) (by decide) rfl (by simp)
  · have hkz : k ≠ 0 := fun e => hk0 (if_pos e)
    rw [if_neg hkz] at hk0 hp1 nx
    have hsp : ¬ sep = ⟨#[]⟩ := fun e => hk0 (by rw [← hS, if_pos e])
    rw [if_neg hsp] at hS
    subst hS
    have hkp : 0 < k := by omega
    have p := put_row LL (L ++ P0) [sep] (by rw [List.length_append]; simp at hp1 ⊢; omega)
    have q := he k (.mk ux ul) W hu hW (L ++ P0 ++ [sep]) (by simp at hp1 ⊢; omega)
    repeat' (first | refine aw_seq ?_ | refine aw_skip ?_ | refine aw_block ?_ | refine aw_exit ?_ | refine aw_ct rfl ?_ | refine aw_cf rfl ?_ | ((first | refine aw_reg (fun K hK => ?_) | refine aw_drw mixd (fun K hK => ?_) | refine ar_call (cgw p 0 2 rfl ?_) | refine ard_call (dgw p 0 2 rfl ?_) | refine ar_call (cgw q 0 2 rfl ?_) | refine ard_call (dgw q 0 2 rfl ?_) | fail); simp -implicitDefEqProofs [hkl, hu, hu', hsp, hkp, w2]) | refine hK _ ?_ | refine hK _ _ (by rfl) ?_ | fail)
    refine ⟨k + 1, by omega, (by dsimp only; omega), ?_⟩; rw [nx]; exact cov_w rfl (by simp -implicitDefEqProofs) (by simp -implicitDefEqProofs) (by decide) rfl (by simp)
end Go.Proofs.YtlkggpjdaaglmaaGreatDoor.am
end
section
namespace Go.Proofs.YtlkggpjdaaglmaaGreatDoor.am
open Go.ChangeShapes Go.WideShapes Go.ChangeAt Go.RowKit
open vt
set_option linter.unusedVariables false
set_option linter.unusedSimpArgs false
theorem we_opd {x : Lab} {l : List VT} {W : List ByteArray} (h : WE (.mk x l) W) : Opd x := by
  intro hk
  cases h <;> first | exact ⟨by assumption, by assumption⟩ | omega
theorem we_ne {t : VT} {W : List ByteArray} (h : WE t W) : W ≠ [] := by
  have hp : ∀ {b : Int} {A : List ByteArray} {n : Int}, A ≠ [] → par b A n ≠ [] := fun {b A n} h => by unfold par; split <;> simp [h]
  induction h <;> simp_all
theorem opB_rng (n : Int) (h1 : 1 ≤ n) (h2 : n ≤ 13) : 1 ≤ (opB n).2 ∧ (opB n).2 ≤ 5 := by
  have : n = 1 ∨ n = 2 ∨ n = 3 ∨ n = 4 ∨ n = 5 ∨ n = 6 ∨ n = 7 ∨ n = 8 ∨ n = 9 ∨ n = 10 ∨ n = 11 ∨ n = 12 ∨ n = 13 := by omega
  rcases this with rfl | rfl | rfl | rfl | rfl | rfl | rfl | rfl | rfl | rfl | rfl | rfl | rfl <;> decide
set_option maxRecDepth 100000 in
set_option maxHeartbeats 4000000 in
theorem two_row (LL : List (Nat × Array Value)) (x a c : Lab) (al cl : List VT) (A C : List ByteArray) (h1 : 1 ≤ x.n) (h2 : x.n ≤ 13) (ha : WE (.mk a al) A) (hc : WE (.mk c cl) C) (ia : ∀ L : List ByteArray, L.length + 3 * A.length ≤ 1000000 → PRow LL 45 [vT (.mk a al)] L A) (ic : ∀ L : List ByteArray, L.length + 3 * C.length ≤ 1000000 → PRow LL 45 [vT (.mk c cl)] L C) (L : List ByteArray) (hL : L.length + 3 * (par (tgh a) A (if (opB x.n).2 = 3 then 4 else (opB x.n).2) ++ ([(opB x.n).1] ++ par (tgh c) C ((opB x.n).2 + 1))).length ≤ 1000000) : PRow LL 81 [vT (.mk x [.mk a al, .mk c cl])] L (par (tgh a) A (if (opB x.n).2 = 3 then 4 else (opB x.n).2) ++ ([(opB x.n).1] ++ par (tgh c) C ((opB x.n).2 + 1))) := by
  have o := poper_row x.n h1 h2
  have q0 := part_row x [.mk a al, .mk c cl] 0 (.mk a al) rfl (by decide)
  have q1 := part_row x [.mk a al, .mk c cl] 1 (.mk c cl) rfl (by decide)
  have hb := opB_rng x.n h1 h2
  generalize opB x.n = r at o hb hL ⊢
  obtain ⟨sg, b⟩ := r
  dsimp only at o hb hL ⊢
  have w1 : IntKind.i64.wrap (b + 1) = b + 1 := i64i _ (by omega) (by omega)
  simp only [List.length_append, List.length_singleton] at hL
  by_cases h3 : b = 3
  · subst h3
    rw [if_pos rfl] at hL ⊢
    have p1 := operand_row LL a al A (we_opd ha) 4 (we_ne ha) ia L (by omega)
    have p2 := put_row LL (L ++ par (tgh a) A 4) [sg] (by simp; omega)
    have p3 := operand_row LL c cl C (we_opd hc) (3 + 1) (we_ne hc) ic (L ++ par (tgh a) A 4 ++ [sg]) (by simp only [List.length_append, List.length_singleton]; omega)
    generalize par (tgh a) A 4 = PA at *
    generalize par (tgh c) C (3 + 1) = PC at *
    refine row_of Tryz.func81 rfl rfl (Nat.le_of_ble_eq_true rfl) ?_
    repeat' (first | refine aw_seq ?_ | refine aw_skip ?_ | refine aw_block ?_ | refine aw_exit ?_ | refine aw_ct rfl ?_ | refine aw_cf rfl ?_ | ((first | refine aw_reg (fun K hK => ?_) | refine aw_drw mixd (fun K hK => ?_) | refine ar_call (cp o ?_) | refine ard_call (dp o ?_) | refine ar_call (cp q0 ?_) | refine ard_call (dp q0 ?_) | refine ar_call (cp q1 ?_) | refine ard_call (dp q1 ?_) | refine ar_call (cgw p1 0 2 rfl ?_) | refine ard_call (dgw p1 0 2 rfl ?_) | refine ar_call (cgw p2 0 2 rfl ?_) | refine ard_call (dgw p2 0 2 rfl ?_) | refine ar_call (cgw p3 0 2 rfl ?_) | refine ard_call (dgw p3 0 2 rfl ?_) | fail); simp -implicitDefEqProofs [i64i]) | refine hK _ ?_ | refine hK _ _ (by rfl) ?_ | fail)
    refine fin_fall (fin_gw rfl ?_); simp -implicitDefEqProofs [FinG, resV, resT] <;> try rfl
  · rw [if_neg h3] at hL ⊢
    have p1 := operand_row LL a al A (we_opd ha) b (we_ne ha) ia L (by omega)
    have p2 := put_row LL (L ++ par (tgh a) A b) [sg] (by simp; omega)
    have p3 := operand_row LL c cl C (we_opd hc) (b + 1) (we_ne hc) ic (L ++ par (tgh a) A b ++ [sg]) (by simp only [List.length_append, List.length_singleton]; omega)
    generalize par (tgh a) A b = PA at *
    generalize par (tgh c) C (b + 1) = PC at *
    refine row_of Tryz.func81 rfl rfl (Nat.le_of_ble_eq_true rfl) ?_
    repeat' (first | refine aw_seq ?_ | refine aw_skip ?_ | refine aw_block ?_ | refine aw_exit ?_ | refine aw_ct rfl ?_ | refine aw_cf rfl ?_ | ((first | refine aw_reg (fun K hK => ?_) | refine aw_drw mixd (fun K hK => ?_) | refine ar_call (cp o ?_) | refine ard_call (dp o ?_) | refine ar_call (cp q0 ?_) | refine ard_call (dp q0 ?_) | refine ar_call (cp q1 ?_) | refine ard_call (dp q1 ?_) | refine ar_call (cgw p1 0 2 rfl ?_) | refine ard_call (dgw p1 0 2 rfl ?_) | refine ar_call (cgw p2 0 2 rfl ?_) | refine ard_call (dgw p2 0 2 rfl ?_) | refine ar_call (cgw p3 0 2 rfl ?_) | refine ard_call (dgw p3 0 2 rfl ?_) | fail); simp -implicitDefEqProofs [h3, w1]) | refine hK _ ?_ | refine hK _ _ (by rfl) ?_ | fail)
    refine fin_fall (fin_gw rfl ?_); simp -implicitDefEqProofs [FinG, resV, resT] <;> try rfl
set_option maxRecDepth 100000 in
set_option maxHeartbeats 4000000 in
theorem one_row (LL : List (Nat × Array Value)) (x a : Lab) (al : List VT) (A : List ByteArray) (sg : ByteArray) (hn : (x.n = 1 ∧ sg = sMin) ∨ (x.n = 2 ∧ sg = sNot)) (ha : WE (.mk a al) A) (ia : ∀ L : List ByteArray, L.length + 3 * A.length ≤ 1000000 → PRow LL 45 [vT (.mk a al)] L A) (L : List ByteArray) (hL : L.length + 3 * ([sg] ++ par (tgh a) A 6).length ≤ 1000000) : PRow LL 82 [vT (.mk x [.mk a al])] L ([sg] ++ par (tgh a) A 6) := by
  have q0 := part_row x [.mk a al] 0 (.mk a al) rfl (by decide)
  simp only [List.length_append, List.length_singleton] at hL
  have p2 := put_row LL L [sg] (by simp; omega)
  have p3 := operand_row LL a al A (we_opd ha) 6 (we_ne ha) ia (L ++ [sg]) (by simp; omega)
  generalize par (tgh a) A 6 = PA at *
  rcases hn with ⟨hn, rfl⟩ | ⟨hn, rfl⟩
  · refine row_of Tryz.func82 rfl rfl (Nat.le_of_ble_eq_true rfl) ?_
    repeat' (first | refine aw_seq ?_ | refine aw_skip ?_ | refine aw_block ?_ | refine aw_exit ?_ | refine aw_ct rfl ?_ | refine aw_cf rfl ?_ | ((first | refine aw_reg (fun K hK => ?_) | refine aw_drw mixd (fun K hK => ?_) | refine ar_call (cp q0 ?_) | refine ard_call (dp q0 ?_) | refine ar_call (cgw p2 0 2 rfl ?_) | refine ard_call (dgw p2 0 2 rfl ?_) | refine ar_call (cgw p3 0 2 rfl ?_) | refine ard_call (dgw p3 0 2 rfl ?_) | fail); simp -implicitDefEqProofs [hn]) | refine hK _ ?_ | refine hK _ _ (by rfl) ?_ | fail)
    refine fin_fall (fin_gw rfl ?_); simp -implicitDefEqProofs [FinG, resV, resT] <;> try rfl
  · refine row_of Tryz.func82 rfl rfl (Nat.le_of_ble_eq_true rfl) ?_
    repeat' (first | refine aw_seq ?_ | refine aw_skip ?_ | refine aw_block ?_ | refine aw_exit ?_ | refine aw_ct rfl ?_ | refine aw_cf rfl ?_ | ((first | refine aw_reg (fun K hK => ?_) | refine aw_drw mixd (fun K hK => ?_) | refine ar_call (cp q0 ?_) | refine ard_call (dp q0 ?_) | refine ar_call (cgw p2 0 2 rfl ?_) | refine ard_call (dgw p2 0 2 rfl ?_) | refine ar_call (cgw p3 0 2 rfl ?_) | refine ard_call (dgw p3 0 2 rfl ?_) | fail); simp -implicitDefEqProofs [hn]) | refine hK _ ?_ | refine hK _ _ (by rfl) ?_ | fail)
    refine fin_fall (fin_gw rfl ?_); simp -implicitDefEqProofs [FinG, resV, resT] <;> try rfl
def brW (x : Lab) : List ByteArray × ByteArray := if x.k = 14 then ([sOpen], sShut) else if x.k = 15 then ([wNew, x.s, sParO], sParS) else if x.k = 16 then ([x.s, sParO], sParS) else ([sAt, x.s, sParO], sParS)
set_option maxRecDepth 100000 in
set_option maxHeartbeats 4000000 in
theorem brack_row (LL : List (Nat × Array Value)) (x : Lab) (l : List VT) (Ws : List (List ByteArray)) (hk : x.k = 14 ∨ x.k = 15 ∨ x.k = 16 ∨ x.k = 17) (hl : l.length = Ws.length) (hn : l.length ≤ 1000000) (ih : ∀ (i : Nat) t W, l[i]? = some t → Ws[i]? = some W → ∀ L : List ByteArray, L.length + 3 * W.length ≤ 1000000 → PRow LL 45 [vT t] L W) (L : List ByteArray) (hL : L.length + 3 * ((brW x).1 ++ (pre [sCom] Ws ++ [(brW x).2])).length ≤ 1000000) : PRow LL 84 [vT (.mk x l)] L ((brW x).1 ++ (pre [sCom] Ws ++ [(brW x).2])) := by
  have hc : (if sCom = ⟨#[]⟩ then [] else [sCom]) = [sCom] := if_neg (by decide)
  have pl := fun L' hL' => pplist_row LL 45 sCom l Ws hl hn ih L' hL'
  rw [hc] at pl
  rcases hk with h | h | h | h
  · have e : brW x = ([sOpen], sShut) := by unfold brW; rw [if_pos h]
    rw [e] at hL ⊢
    simp only [List.length_append, List.length_singleton] at hL
    have p1 := put_row LL L [sOpen] (by simp; omega)
    have p2 := pl (L ++ [sOpen]) (by simp; omega)
    have p3 := put_row LL (L ++ [sOpen] ++ pre [sCom] Ws) [sShut] (by simp; omega)
    generalize pre [sCom] Ws = PW at *
    clear pl
    refine row_of Tryz.func84 rfl rfl (Nat.le_of_ble_eq_true rfl) ?_
    repeat' (first | refine aw_seq ?_ | refine aw_skip ?_ | refine aw_block ?_ | refine aw_exit ?_ | refine aw_ct rfl ?_ | refine aw_cf rfl ?_ | ((first | refine aw_reg (fun K hK => ?_) | refine aw_drw mixd (fun K hK => ?_) | refine ar_call (cgw p1 0 2 rfl ?_) | refine ard_call (dgw p1 0 2 rfl ?_) | refine ar_call (cgw p2 0 2 rfl ?_) | refine ard_call (dgw p2 0 2 rfl ?_) | refine ar_call (cgw p3 0 2 rfl ?_) | refine ard_call (dgw p3 0 2 rfl ?_) | fail); simp -implicitDefEqProofs [h]) | refine hK _ ?_ | refine hK _ _ (by rfl) ?_ | fail)
    refine fin_fall (fin_gw rfl ?_); simp -implicitDefEqProofs [FinG, resV, resT] <;> try rfl
  · have e : brW x = ([wNew, x.s, sParO], sParS) := by unfold brW; rw [if_neg (by omega), if_pos h]
    rw [e] at hL ⊢
    simp only [List.length_append, List.length_cons, List.length_nil] at hL
    have p0 := put_row LL L [wNew] (by simp; omega)
    have p0' := name_row LL (L ++ [wNew]) x.s (by simp; omega)
    have p1 := put_row LL (L ++ [wNew] ++ [x.s]) [sParO] (by simp; omega)
    have p2 := pl (L ++ [wNew] ++ [x.s] ++ [sParO]) (by simp; omega)
    have p3 := put_row LL (L ++ [wNew] ++ [x.s] ++ [sParO] ++ pre [sCom] Ws) [sParS] (by simp; omega)
    generalize pre [sCom] Ws = PW at *
    clear pl
    refine row_of Tryz.func84 rfl rfl (Nat.le_of_ble_eq_true rfl) ?_
    repeat' (first | refine aw_seq ?_ | refine aw_skip ?_ | refine aw_block ?_ | refine aw_exit ?_ | refine aw_ct rfl ?_ | refine aw_cf rfl ?_ | ((first | refine aw_reg (fun K hK => ?_) | refine aw_drw mixd (fun K hK => ?_) | refine ar_call (cgw p0 0 2 rfl ?_) | refine ard_call (dgw p0 0 2 rfl ?_) | refine ar_call (cgw p0' 0 2 rfl ?_) | refine ard_call (dgw p0' 0 2 rfl ?_) | refine ar_call (cgw p1 0 2 rfl ?_) | refine ard_call (dgw p1 0 2 rfl ?_) | refine ar_call (cgw p2 0 2 rfl ?_) | refine ard_call (dgw p2 0 2 rfl ?_) | refine ar_call (cgw p3 0 2 rfl ?_) | refine ard_call (dgw p3 0 2 rfl ?_) | fail); simp -implicitDefEqProofs [h]) | refine hK _ ?_ | refine hK _ _ (by rfl) ?_ | fail)
    refine fin_fall (fin_gw rfl ?_); simp -implicitDefEqProofs [FinG, resV, resT] <;> try rfl
  · have e : brW x = ([x.s, sParO], sParS) := by unfold brW; rw [if_neg (by omega), if_neg (by omega), if_pos h]
    rw [e] at hL ⊢
    simp only [List.length_append, List.length_cons, List.length_nil] at hL
    have p0' := name_row LL L x.s (by omega)
    have p1 := put_row LL (L ++ [x.s]) [sParO] (by simp; omega)
    have p2 := pl (L ++ [x.s] ++ [sParO]) (by simp; omega)
    have p3 := put_row LL (L ++ [x.s] ++ [sParO] ++ pre [sCom] Ws) [sParS] (by simp; omega)
    generalize pre [sCom] Ws = PW at *
    clear pl
    refine row_of Tryz.func84 rfl rfl (Nat.le_of_ble_eq_true rfl) ?_
    repeat' (first | refine aw_seq ?_ | refine aw_skip ?_ | refine aw_block ?_ | refine aw_exit ?_ | refine aw_ct rfl ?_ | refine aw_cf rfl ?_ | ((first | refine aw_reg (fun K hK => ?_) | refine aw_drw mixd (fun K hK => ?_) | refine ar_call (cgw p0' 0 2 rfl ?_) | refine ard_call (dgw p0' 0 2 rfl ?_) | refine ar_call (cgw p1 0 2 rfl ?_) | refine ard_call (dgw p1 0 2 rfl ?_) | refine ar_call (cgw p2 0 2 rfl ?_) | refine ard_call (dgw p2 0 2 rfl ?_) | refine ar_call (cgw p3 0 2 rfl ?_) | refine ard_call (dgw p3 0 2 rfl ?_) | fail); simp -implicitDefEqProofs [h]) | refine hK _ ?_ | refine hK _ _ (by rfl) ?_ | fail)
    refine fin_fall (fin_gw rfl ?_); simp -implicitDefEqProofs [FinG, resV, resT] <;> try rfl
  · have e : brW x = ([sAt, x.s, sParO], sParS) := by unfold brW; rw [if_neg (by omega), if_neg (by omega), if_neg (by omega)]
    rw [e] at hL ⊢
    simp only [List.length_append, List.length_cons, List.length_nil] at hL
    have p0 := put_row LL L [sAt] (by simp; omega)
    have p0' := name_row LL (L ++ [sAt]) x.s (by simp; omega)
    have p1 := put_row LL (L ++ [sAt] ++ [x.s]) [sParO] (by simp; omega)
    have p2 := pl (L ++ [sAt] ++ [x.s] ++ [sParO]) (by simp; omega)
    have p3 := put_row LL (L ++ [sAt] ++ [x.s] ++ [sParO] ++ pre [sCom] Ws) [sParS] (by simp; omega)
    generalize pre [sCom] Ws = PW at *
    clear pl
    refine row_of Tryz.func84 rfl rfl (Nat.le_of_ble_eq_true rfl) ?_
    repeat' (first | refine aw_seq ?_ | refine aw_skip ?_ | refine aw_block ?_ | refine aw_exit ?_ | refine aw_ct rfl ?_ | refine aw_cf rfl ?_ | ((first | refine aw_reg (fun K hK => ?_) | refine aw_drw mixd (fun K hK => ?_) | refine ar_call (cgw p0 0 2 rfl ?_) | refine ard_call (dgw p0 0 2 rfl ?_) | refine ar_call (cgw p0' 0 2 rfl ?_) | refine ard_call (dgw p0' 0 2 rfl ?_) | refine ar_call (cgw p1 0 2 rfl ?_) | refine ard_call (dgw p1 0 2 rfl ?_) | refine ar_call (cgw p2 0 2 rfl ?_) | refine ard_call (dgw p2 0 2 rfl ?_) | refine ar_call (cgw p3 0 2 rfl ?_) | refine ard_call (dgw p3 0 2 rfl ?_) | fail); simp -implicitDefEqProofs [h]) | refine hK _ ?_ | refine hK _ _ (by rfl) ?_ | fail)
    refine fin_fall (fin_gw rfl ?_); simp -implicitDefEqProofs [FinG, resV, resT] <;> try rfl
end Go.Proofs.YtlkggpjdaaglmaaGreatDoor.am
end
