import Derived.Test.YtlkggpjdaaglmaaGreatDoorPkR9
import Derived.Test.YtlkggpjdaaglmaaGreatDoorPkR8
import Derived.Shelf.Strings.Builder1
import Derived.Shelf.Strings.Builder2
import Derived.Shelf.Strings.OnBuilder
import Derived.Shelf.Strconv.Itoa0
import Derived.Shelf.Strconv.Itoa1
import Derived.Shelf.LaysM
import Derived.Shelf.Strconv.Itoa2
import Derived.Shelf.Strconv.Itoa3
import Derived.Shelf.Strconv.Itoa4
import Derived.Shelf.Strconv.ParseIntEmpty
import Derived.Shelf.Strconv.Clone
import Derived.Shelf.Strconv.SyntaxError
import Derived.Shelf.LaysC
import Derived.Shelf.Strconv.ToError
import Derived.Shelf.Strconv.Lower
import Derived.Shelf.Strconv.ParseUint10
import Derived.Shelf.Strconv.ParseUint10Empty
import Derived.Shelf.Strconv.ParseUint10Any
import Derived.Shelf.Strconv.ParseInt10
import Derived.Shelf.Strconv.RangeError
import Derived.Shelf.Strconv.ToErrorRange
import Derived.Shelf.Strconv.ParseUintEmpty
import Derived.Shelf.Strconv.ParseUint10b64
import Derived.Shelf.Strconv.ParseUint10b32
import Derived.Shelf.Strconv.ParseUint10b16
import Derived.Shelf.Strconv.ParseUint10b8
import Derived.Shelf.Strconv.ParseUint10At
import Derived.Shelf.Strconv.ParseInt10At64
import Derived.Shelf.Strconv.ParseInt10At32
import Derived.Shelf.Strconv.ParseInt10At16
import Derived.Shelf.Strconv.ParseInt10At8
import Derived.Shelf.Strconv.ParseInt10All
import Derived.Shelf.Strconv.ParseIntPublic10
import Derived.Shelf.Strconv.ErrVarParseInt
import Derived.Test.YtlkggpjdaaglmaaGreatDoorProg
import Derived.Lib.LaidTab
import Derived.Deep.RegionHeld3
import Derived.Lib.AppendIntMem
import Derived.Test.YtlkggpjdaaglmaaGreatDoorPkR5
section
namespace Go.Proofs.YtlkggpjdaaglmaaGreatDoor.am
open Go.ChangeShapes Go.WideShapes Go.ChangeAt Go.RowKit
set_option linter.unusedVariables false
variable {P : Program} {N nb : Nat} {st : St} {Q : Exit → St → Prop}
def St.mvr (st : St) (id bx j : Nat) (cells : List AC) (e : TypeId) (es es' : Nat) (l : List (List PV)) : St := ⟨st.tm, (bx, some (.box (cells.set j (.row st.nx es l)))) :: (st.nx, some (.row e es')) :: (id, none) :: st.hp, st.nx + 1⟩
theorem aw_mvr {c : Code} (id bx j : Nat) (cells : List AC) (e : TypeId) (es es' : Nat) (l : List (List PV)) (hid : hlk st.hp id = some (.row e es')) (hbx : hlk st.hp bx = some (.box cells)) (hj : cells[j]? = some (.row id es l)) (hl1 : id < st.nx) (hl2 : bx < st.nx) (h : AW P N nb c (st.mvr id bx j cells e es es' l) Q) : AW P N nb c st Q := by
  refine aw_cov (fun X hX a w hr => ?_) h
  obtain ⟨h1, h2, γ, S, hm, ha⟩ := hr
  obtain ⟨v, n, xs, g1, g2, g3⟩ := hm.obj _ _ hid
  obtain ⟨m, hG⟩ := hm.app (nm := st.nx) (Nat.le_refl _) g1 rfl (w' := w) rfl rfl rfl rfl (fun _ _ => rfl) (fun _ _ _ => rfl) (fun _ => False) (.row e es')
    ⟨v, n, xs, upd_same _ _ _, g2, fun b hb o ho hs => g3 b hb o ho (hs.elim (fun h => h) (fun h => h.2.elim))⟩
  refine ⟨h1, h2, upd (upd γ id .dead) st.nx (.val v), (fun b k => S b k ∨ (v.ownBlock = some b ∧ False)), ?_, fun s => (ha s).mono hG (fun _ _ h => Or.inl h) (fun _ _ _ => rfl)⟩
  show Mem X (hlk ((bx, some (.box (cells.set j (.row st.nx es l)))) :: (st.nx, some (.row e es')) :: (id, none) :: st.hp)) _ _ _ _
  rw [hlk_cons, hlk_cons, hlk_cons]
  have hne : bx ≠ st.nx := by omega
  have hbi : bx ≠ id := fun e => by rw [e, hid] at hbx; cases hbx
  have hbx' : upd (upd (hlk st.hp) id none) st.nx (some (.row e es')) bx = some (.box cells) := by rw [upd_ne _ _ hne, upd_ne _ _ hbi]; exact hbx
  obtain ⟨b0, cs0, t0, q1, q2, q3, q4⟩ := hm.obj _ _ hbx
  refine { m with un := fun x hx => m.un x ⟨by have : st.nx + 1 ≤ x := hx
                                               show st.nx ≤ x
                                               omega, by have : st.nx + 1 ≤ x := hx
                                                         omega⟩, off := fun x hx => ?_, obj := fun x o hx => ?_ }
  · by_cases hxi : x = bx
    · subst hxi; rw [upd_same] at hx; cases hx
    · rw [upd_ne _ _ hxi] at hx; exact m.off x hx
  · by_cases hxi : x = bx
    · subst hxi
      rw [upd_same] at hx; cases hx
      obtain ⟨b, cs, t, k1, k2, k3, k4⟩ := m.obj x _ hbx'
      have hcs : cs = cs0 := by
        have : (upd (upd γ id .dead) st.nx (.val v)) x = γ x := by rw [upd_ne _ _ hne, upd_ne _ _ hbi]
        rw [this, q1] at k1
        cases k1
        rw [q2] at k2
        cases k2
        rfl
      refine ⟨b, cs, t, k1, k2, ⟨by rw [List.length_set]; exact k3.1, fun i ac hi => ?_⟩, k4⟩
      rw [List.getElem?_set] at hi
      split at hi
      · rename_i hij
        split at hi
        · cases hi
          subst hij
          obtain ⟨u, r1, r2⟩ := q3.2 j _ hj
          obtain ⟨r3, r4⟩ := r2
          have hu : u = v := by
            rcases r4 with r4 | r4
            · rw [g1] at r4; cases r4
            · rw [g1] at r4; cases r4; rfl
          subst hu
          exact ⟨u, by rw [hcs]; exact r1, r3.mono (fun _ _ h => .inl h) (fun _ _ _ => rfl), .inr (upd_same _ _ _)⟩
        · cases hi
      · exact k3.2 i ac hi
    · rw [upd_ne _ _ hxi] at hx; exact m.obj x o hx
abbrev bxW (i : Nat) (l : List (List PV)) : AO := .box [.row i 1 l]
theorem cgw {f : Nat} {dst : Option Nat} {first caps : List Cap} {args cargs : List AV} {l l0 : List (List PV)} {e : TypeId} {LL : List (Nat × Array Value)} {ch' : List (Option AO)} {res : AV} {K : St → Prop} (hrow : Row P f cargs [bxW 1 l, .row e 1, .lib LL] res ch') (b g : Nat) {i : Nat} (hb : hlk st.hp b = some (bxW i l0)) (hk : K ((st.wr (wrs (nmap [b, i, g] 3 st.nx) 0 ch') 8).put dst (res.ren (nmap [b, i, g] 3 st.nx)))) (hfit : fitVs 3 (fun k => [b, i, g].getD k 0) cargs (first.map capV ++ args ++ caps.map capV) := by first | (simp [*]; done) | fail) (ho : covO (hlk st.hp) 3 (fun k => [b, i, g].getD k 0) ([bxW 1 l, .row e 1, .lib LL].map some) [b, i, g] := by first | (simp [*]; done) | fail) (hnd : [b, i, g].Nodup := by first | decide | (simp; done) | fail) (hl : ch'.length ≤ 11 := by first | decide | (simp; done) | fail) (hl' : 3 ≤ ch'.length := by first | decide | (simp; done) | fail) (hd : dok N dst = true := by rfl) :
    CallK P N dst (.v (.c (.fn (.func f) first caps))) args st K := cg hrow [b, i, g] hk hfit ho hnd hl hl' hd
theorem dgw {f : Nat} {dst : Option Nat} {first caps : List Cap} {args cargs : List AV} {l l0 : List (List PV)} {e : TypeId} {LL : List (Nat × Array Value)} {ch' : List (Option AO)} {res : AV} {K : List Nat → List Nat → St → Prop} (hrow : Row P f cargs [bxW 1 l, .row e 1, .lib LL] res ch') (b g : Nat) {i : Nat} (hb : hlk st.hp b = some (bxW i l0)) (hk : K [b, i, g] ((wrs (nmap [b, i, g] 3 st.nx) 0 ch').map (·.1)) ((st.wr (wrs (nmap [b, i, g] 3 st.nx) 0 ch') 8).put dst (res.ren (nmap [b, i, g] 3 st.nx)))) (hfit : fitVs 3 (fun k => [b, i, g].getD k 0) cargs (first.map capV ++ args ++ caps.map capV) := by first | (simp [*]; done) | fail) (ho : covO (hlk st.hp) 3 (fun k => [b, i, g].getD k 0) ([bxW 1 l, .row e 1, .lib LL].map some) [b, i, g] := by first | (simp [*]; done) | fail) (hnd : [b, i, g].Nodup := by first | decide | (simp; done) | fail) (hl : ch'.length ≤ 11 := by first | decide | (simp; done) | fail) (hl' : 3 ≤ ch'.length := by first | decide | (simp; done) | fail) (hd : dok N dst = true := by rfl) :
    CallD P N dst (.v (.c (.fn (.func f) first caps))) args st K := dg hrow [b, i, g] hk hfit ho hnd hl hl' hd
theorem fin_gw {rs : List ResultVar} {res : AV} {ch' : List (Option AO)} {l0 : List (List PV)} {i : Nat} (hb : hlk st.hp 0 = some (bxW i l0)) (h : FinG P rs res ch' [0, 1, 2, i] st) (hnd : [0, 1, 2, i].Nodup := by first | decide | (simp; done)) (ht : [0, 1, 2, i].take nb = List.range nb := by rfl) (hl : nb ≤ ch'.length := by first | decide | (simp; done)) : Fin P nb rs res ch' .ret st := fin_g [0, 1, 2, i] h hnd ht hl
theorem cov_w {tm : List (Nat × AV)} {os : List (Option AO)} {l0 : List (List PV)} {i : Nat} (hw : hlk st.hp 0 = some (bxW i l0)) (ht : covT st.tm os.length (fun k => [0, 1, 2, i].getD k 0) tm) (hc : covO (hlk st.hp) os.length (fun k => [0, 1, 2, i].getD k 0) os [0, 1, 2, i]) (hnd : [0, 1, 2, i].Nodup) (hb : [0, 1, 2, i].take nb = List.range nb) (hnb : nb ≤ os.length) : Cov N nb st (mkSt tm os) := cov_intro [0, 1, 2, i] ht hc hnd hb hnb
end Go.Proofs.YtlkggpjdaaglmaaGreatDoor.am
end
section
namespace Go.Proofs.YtlkggpjdaaglmaaGreatDoor.am
open Go.ChangeShapes Go.WideShapes Go.ChangeAt Go.RowKit
open vt
set_option linter.unusedVariables false
set_option linter.unusedSimpArgs false
theorem td_prn : td Tryz.prog 77 = some ⟨true, 1, 24, [.nilS], [(0, 1, false)], .struct⟩ := Eq.trans (by kernel_rfl) (Eq.refl _)
theorem td_pprn : td Tryz.prog 52 = some ⟨false, 1, 8, [.lit (.pointer none)], [], (.pointer 77)⟩ := Eq.trans (by kernel_rfl) (Eq.refl _)
theorem td_pstrs : td Tryz.prog 75 = some ⟨false, 1, 24, [.nilS], [], (.slice 9)⟩ := Eq.trans (by kernel_rfl) (Eq.refl _)
attribute [simp] td_prn td_pprn td_pstrs
abbrev ws (L : List ByteArray) : List (List PV) := L.map fun s => [Sx s]
abbrev vWs (W : List ByteArray) : AV := .v (.c (.pv (.sl 1 (ws W))))
abbrev rwS : AO := .row 9 1
abbrev PRow (LL : List (Nat × Array Value)) (f : Nat) (args : List AV) (L W : List ByteArray) : Prop := Row Tryz.prog f (.v (.c (.ptr 0 0)) :: args) [bxW 1 (ws L), rwS, .lib LL] (.tup []) [some (bxW 3 (ws (L ++ W))), none, some (.lib LL), some rwS]
set_option maxRecDepth 100000 in
set_option maxHeartbeats 4000000 in
theorem put_row (LL : List (Nat × Array Value)) (L W : List ByteArray) (h : L.length + W.length ≤ 1000000) : PRow LL 41 [vWs W] L W := by
  have b1 : (L.length + W.length) * 16 ≤ 140737488355328 := by omega
  have b2 : L.length + W.length ≤ 140737488355328 := by omega
  refine row_of Tryz.func41 rfl rfl (Nat.le_of_ble_eq_true rfl) ?_
  repeat (first | refine aw_seq ?_ | refine aw_skip ?_ | refine aw_block ?_ | refine aw_exit ?_ | refine aw_cond rfl (fun _ => ?_) (fun hb => absurd hb (by decide)) | refine aw_cond rfl (fun hb => absurd hb (by decide)) (fun _ => ?_) | (refine aw_reg (fun K hK => ?_); simp -implicitDefEqProofs [b1, b2]; refine hK _ ?_) | (refine aw_drw mixd (fun K hK => ?_); simp -implicitDefEqProofs [b1, b2]; refine hK _ _ (by rfl) ?_) | fail)
  refine fin_fall (fin_gw rfl ?_); simp -implicitDefEqProofs [FinG, resV, resT] <;> try rfl
set_option maxRecDepth 100000 in
set_option maxHeartbeats 4000000 in
theorem part_row (x : Lab) (l : List VT) (i : Nat) (y : VT) (h : l[i]? = some y) (hi : i ≤ 9) : Row Tryz.prog 46 [vT (.mk x l), vI (i : Nat)] [] (vT y) [] := by
  have h1 := (List.getElem?_eq_some_iff.1 h).1
  have h2 := (List.getElem?_eq_some_iff.1 h).2
  have h3 : (i : Int) < l.length := by omega
  obtain ⟨⟨yk, yn, ys, yf, yt⟩, yl⟩ := y
  refine row_of Tryz.func46 rfl rfl (Nat.le_of_ble_eq_true rfl) ?_
  repeat (first | refine aw_seq ?_ | refine aw_skip ?_ | refine aw_block ?_ | refine aw_exit ?_ | refine aw_cond rfl (fun _ => ?_) (fun hb => absurd hb (by decide)) | refine aw_cond rfl (fun hb => absurd hb (by decide)) (fun _ => ?_) | (refine aw_reg (fun K hK => ?_); simp -implicitDefEqProofs [h, h1, h2, h3]; refine hK _ ?_) | (refine aw_drw mixd (fun K hK => ?_); simp -implicitDefEqProofs [h, h1, h2, h3]; refine hK _ _ (by rfl) ?_) | fail)
  refine aw_ret (fin_ret ?_); simp -implicitDefEqProofs [FinP, resV, resT] <;> try rfl
set_option maxRecDepth 100000 in
set_option maxHeartbeats 4000000 in
theorem oper_row (n : Int) (h1 : 1 ≤ n) (h2 : n ≤ 13) : Row Tryz.prog 118 [vI n] [] (.tup [.c (.pv (Sx (opB n).1)), .c (.pv (I (opB n).2))]) [] := by
  have : n = 1 ∨ n = 2 ∨ n = 3 ∨ n = 4 ∨ n = 5 ∨ n = 6 ∨ n = 7 ∨ n = 8 ∨ n = 9 ∨ n = 10 ∨ n = 11 ∨ n = 12 ∨ n = 13 := by omega
  rcases this with rfl | rfl | rfl | rfl | rfl | rfl | rfl | rfl | rfl | rfl | rfl | rfl | rfl
  all_goals
    refine row_of Tryz.func118 rfl rfl (Nat.le_of_ble_eq_true rfl) ?_
    repeat (first | refine aw_seq ?_ | refine aw_skip ?_ | refine aw_block ?_ | refine aw_exit ?_ | refine aw_cond rfl (fun _ => ?_) (fun hb => absurd hb (by decide)) | refine aw_cond rfl (fun hb => absurd hb (by decide)) (fun _ => ?_) | (refine aw_reg (fun K hK => ?_); simp -implicitDefEqProofs; refine hK _ ?_) | (refine aw_drw mixd (fun K hK => ?_); simp -implicitDefEqProofs; refine hK _ _ (by rfl) ?_) | fail)
    refine aw_ret (fin_ret ?_); simp -implicitDefEqProofs [FinP, resV, resT, opB] <;> try rfl
set_option maxRecDepth 100000 in
set_option maxHeartbeats 4000000 in
theorem bind_row (x : Lab) (l : List VT) (hx : Opd x) : Row Tryz.prog 119 [vT (.mk x l)] [] (vI (tgh x)) [] := by
  by_cases c : x.k = 10
  · have e := oper_row x.n (hx c).1 (hx c).2
    have t : tgh x = (opB x.n).2 := by unfold tgh; rw [if_pos c]
    rw [t]
    refine row_of Tryz.func119 rfl rfl (Nat.le_of_ble_eq_true rfl) ?_
    repeat' (first | refine aw_seq ?_ | refine aw_skip ?_ | refine aw_block ?_ | refine aw_exit ?_ | refine aw_cond rfl (fun _ => ?_) (fun hb => absurd hb (by decide)) | refine aw_cond rfl (fun hb => absurd hb (by decide)) (fun _ => ?_) | (refine aw_reg (fun K hK => ?_); simp -implicitDefEqProofs [c]) | (refine aw_drw mixd (fun K hK => ?_); simp -implicitDefEqProofs [c]) | refine hK _ ?_ | refine hK _ _ (by rfl) ?_ | (refine ar_call (cp e ?_); simp -implicitDefEqProofs [c]) | (refine ard_call (dp e ?_); simp -implicitDefEqProofs [c]) | fail)
    refine aw_ret (fin_ret ?_); simp -implicitDefEqProofs [FinP, resV, resT] <;> try rfl
  · by_cases c2 : x.k = 11
    · have t : tgh x = 6 := by unfold tgh; rw [if_neg c, if_pos c2]
      rw [t]
      refine row_of Tryz.func119 rfl rfl (Nat.le_of_ble_eq_true rfl) ?_
      repeat (first | refine aw_seq ?_ | refine aw_skip ?_ | refine aw_block ?_ | refine aw_exit ?_ | refine aw_cond rfl (fun _ => ?_) (fun hb => absurd hb (by decide)) | refine aw_cond rfl (fun hb => absurd hb (by decide)) (fun _ => ?_) | (refine aw_reg (fun K hK => ?_); simp -implicitDefEqProofs [c, c2]; refine hK _ ?_) | (refine aw_drw mixd (fun K hK => ?_); simp -implicitDefEqProofs [c, c2]; refine hK _ _ (by rfl) ?_) | fail)
      refine aw_ret (fin_ret ?_); simp -implicitDefEqProofs [FinP, resV, resT] <;> try rfl
    · have t : tgh x = 7 := by unfold tgh; rw [if_neg c, if_neg c2]
      rw [t]
      refine row_of Tryz.func119 rfl rfl (Nat.le_of_ble_eq_true rfl) ?_
      repeat (first | refine aw_seq ?_ | refine aw_skip ?_ | refine aw_block ?_ | refine aw_exit ?_ | refine aw_cond rfl (fun _ => ?_) (fun hb => absurd hb (by decide)) | refine aw_cond rfl (fun hb => absurd hb (by decide)) (fun _ => ?_) | (refine aw_reg (fun K hK => ?_); simp -implicitDefEqProofs [c, c2]; refine hK _ ?_) | (refine aw_drw mixd (fun K hK => ?_); simp -implicitDefEqProofs [c, c2]; refine hK _ _ (by rfl) ?_) | fail)
      refine aw_ret (fin_ret ?_); simp -implicitDefEqProofs [FinP, resV, resT] <;> try rfl
end Go.Proofs.YtlkggpjdaaglmaaGreatDoor.am
end
section
namespace Go.Proofs
open Go.Shelf
def Tryz.lays169_ren : Go.Shelf.Ren := ⟨fun | 169 => 19 | n => n, fun | 70 => 41 | 9 => 9 | 0 => 0 | 72 => 44 | 37 => 42 | 127 => 83 | 3 => 3 | 5 => 5 | n => n, fun | n => n⟩
theorem Tryz.lays169 : Go.Proofs.Lays.n169 Tryz.prog Tryz.lays169_ren := {
  mixed := by kernel_rfl
  f169 := Tryz.func19.trans (congrArg some (by kernel_rfl))
  t0 := Tryz.underlying0
  a0 := Tryz.isAgg0
  z0 := Tryz.sizeOf0
  v0 := Tryz.zeroValue0
  t3 := Tryz.underlying3
  a3 := Tryz.isAgg3
  z3 := Tryz.sizeOf3
  v3 := Tryz.zeroValue3
  t9 := Tryz.underlying9
  a9 := Tryz.isAgg9
  z9 := Tryz.sizeOf9
  v9 := Tryz.zeroValue9
  t37 := Tryz.underlying42
  a37 := Tryz.isAgg42
  z37 := Tryz.sizeOf42
  v37 := Tryz.zeroValue42
  t70 := Tryz.underlying41
  a70 := Tryz.isAgg41
  z70 := Tryz.sizeOf41
  v70 := Tryz.zeroValue41
  t72 := Tryz.underlying44
  a72 := Tryz.isAgg44
  z72 := Tryz.sizeOf44
  v72 := Tryz.zeroValue44
  t127 := Tryz.underlying83
  a127 := Tryz.isAgg83
  z127 := Tryz.sizeOf83
  v127 := Tryz.zeroValue83 }
theorem Tryz.Builder_Extra_169 : Builder.Extra Tryz.prog Tryz.lays169_ren := {
  sizeBuilder := by kernel_rfl
  liesBuilder := by kernel_rfl
  t5 := Tryz.underlying5
  a5 := Tryz.isAgg5
  z5 := Tryz.sizeOf5
  v5 := Tryz.zeroValue5
  infoByte := by kernel_rfl
  cellsByte := by kernel_rfl
  sizeByte := by kernel_rfl
  neB5 := by decide }
def Tryz.lays165_ren : Go.Shelf.Ren := ⟨fun | 165 => 78 | 240 => 39 | 241 => 116 | 276 => 77 | 277 => 135 | n => n, fun | 70 => 41 | 3 => 3 | 0 => 0 | 4 => 4 | 9 => 9 | 20 => 20 | 72 => 44 | 37 => 42 | 164 => 106 | 5 => 5 | n => n, fun | n => n⟩
theorem Tryz.lays165 : Go.Proofs.Lays.n165 Tryz.prog Tryz.lays165_ren := {
  mixed := by kernel_rfl
  f165 := Tryz.func78.trans (congrArg some (by kernel_rfl))
  f240 := Tryz.func39.trans (congrArg some (by kernel_rfl))
  f241 := Tryz.func116.trans (congrArg some (by kernel_rfl))
  f276 := Tryz.func77.trans (congrArg some (by kernel_rfl))
  f277 := Tryz.func135.trans (congrArg some (by kernel_rfl))
  t0 := Tryz.underlying0
  a0 := Tryz.isAgg0
  z0 := Tryz.sizeOf0
  v0 := Tryz.zeroValue0
  t3 := Tryz.underlying3
  a3 := Tryz.isAgg3
  z3 := Tryz.sizeOf3
  v3 := Tryz.zeroValue3
  t4 := Tryz.underlying4
  a4 := Tryz.isAgg4
  z4 := Tryz.sizeOf4
  v4 := Tryz.zeroValue4
  t9 := Tryz.underlying9
  a9 := Tryz.isAgg9
  z9 := Tryz.sizeOf9
  v9 := Tryz.zeroValue9
  t20 := Tryz.underlying20
  a20 := Tryz.isAgg20
  z20 := Tryz.sizeOf20
  v20 := Tryz.zeroValue20
  t37 := Tryz.underlying42
  a37 := Tryz.isAgg42
  z37 := Tryz.sizeOf42
  v37 := Tryz.zeroValue42
  t70 := Tryz.underlying41
  a70 := Tryz.isAgg41
  z70 := Tryz.sizeOf41
  v70 := Tryz.zeroValue41
  t72 := Tryz.underlying44
  a72 := Tryz.isAgg44
  z72 := Tryz.sizeOf44
  v72 := Tryz.zeroValue44
  t164 := Tryz.underlying106
  a164 := Tryz.isAgg106
  z164 := Tryz.sizeOf106
  v164 := Tryz.zeroValue106 }
theorem Tryz.Builder_Extra_165 : Builder.Extra Tryz.prog Tryz.lays165_ren := {
  sizeBuilder := by kernel_rfl
  liesBuilder := by kernel_rfl
  t5 := Tryz.underlying5
  a5 := Tryz.isAgg5
  z5 := Tryz.sizeOf5
  v5 := Tryz.zeroValue5
  infoByte := by kernel_rfl
  cellsByte := by kernel_rfl
  sizeByte := by kernel_rfl
  neB5 := by decide }
def Tryz.lays156_ren : Go.Shelf.Ren := ⟨fun | 156 => 40 | 165 => 78 | 166 => 15 | 169 => 19 | 240 => 39 | 241 => 116 | 276 => 77 | 277 => 135 | n => n, fun | 31 => 75 | 9 => 9 | 3 => 3 | 4 => 4 | 0 => 0 | 20 => 20 | 72 => 44 | 76 => 47 | 70 => 41 | 37 => 42 | 75 => 46 | 127 => 83 | 164 => 106 | 5 => 5 | 80 => 54 | n => n, fun | n => n⟩
theorem Tryz.lays156 : Go.Proofs.Lays.n156 Tryz.prog Tryz.lays156_ren := {
  mixed := by kernel_rfl
  f156 := Tryz.func40.trans (congrArg some (by kernel_rfl))
  f165 := Tryz.func78.trans (congrArg some (by kernel_rfl))
  f166 := Tryz.func15.trans (congrArg some (by kernel_rfl))
  f169 := Tryz.func19.trans (congrArg some (by kernel_rfl))
  f240 := Tryz.func39.trans (congrArg some (by kernel_rfl))
  f241 := Tryz.func116.trans (congrArg some (by kernel_rfl))
  f276 := Tryz.func77.trans (congrArg some (by kernel_rfl))
  f277 := Tryz.func135.trans (congrArg some (by kernel_rfl))
  t0 := Tryz.underlying0
  a0 := Tryz.isAgg0
  z0 := Tryz.sizeOf0
  v0 := Tryz.zeroValue0
  t3 := Tryz.underlying3
  a3 := Tryz.isAgg3
  z3 := Tryz.sizeOf3
  v3 := Tryz.zeroValue3
  t4 := Tryz.underlying4
  a4 := Tryz.isAgg4
  z4 := Tryz.sizeOf4
  v4 := Tryz.zeroValue4
  t9 := Tryz.underlying9
  a9 := Tryz.isAgg9
  z9 := Tryz.sizeOf9
  v9 := Tryz.zeroValue9
  t20 := Tryz.underlying20
  a20 := Tryz.isAgg20
  z20 := Tryz.sizeOf20
  v20 := Tryz.zeroValue20
  t31 := Tryz.underlying75
  a31 := Tryz.isAgg75
  z31 := Tryz.sizeOf75
  v31 := Tryz.zeroValue75
  t37 := Tryz.underlying42
  a37 := Tryz.isAgg42
  z37 := Tryz.sizeOf42
  v37 := Tryz.zeroValue42
  t70 := Tryz.underlying41
  a70 := Tryz.isAgg41
  z70 := Tryz.sizeOf41
  v70 := Tryz.zeroValue41
  t72 := Tryz.underlying44
  a72 := Tryz.isAgg44
  z72 := Tryz.sizeOf44
  v72 := Tryz.zeroValue44
  t75 := Tryz.underlying46
  a75 := Tryz.isAgg46
  z75 := Tryz.sizeOf46
  v75 := Tryz.zeroValue46
  t76 := Tryz.underlying47
  a76 := Tryz.isAgg47
  z76 := Tryz.sizeOf47
  v76 := Tryz.zeroValue47
  t127 := Tryz.underlying83
  a127 := Tryz.isAgg83
  z127 := Tryz.sizeOf83
  v127 := Tryz.zeroValue83
  t164 := Tryz.underlying106
  a164 := Tryz.isAgg106
  z164 := Tryz.sizeOf106
  v164 := Tryz.zeroValue106 }
theorem Tryz.Builder_Extra_156 : Builder.Extra Tryz.prog Tryz.lays156_ren := {
  sizeBuilder := by kernel_rfl
  liesBuilder := by kernel_rfl
  t5 := Tryz.underlying5
  a5 := Tryz.isAgg5
  z5 := Tryz.sizeOf5
  v5 := Tryz.zeroValue5
  infoByte := by kernel_rfl
  cellsByte := by kernel_rfl
  sizeByte := by kernel_rfl
  neB5 := by decide }
open Go.RowKit in
theorem Tryz.strings_Join (bk o c : Nat) (xs : List ByteArray) (sep : ByteArray) (w : World) (hcells : ∀ (j : Nat) x, xs[j]? = some x → w.cell? ⟨bk, o + j, none⟩ = some (.string x)) (hbk : bk < w.heap.size) (hN : xs.length ≤ 140737488355328) (hcap : xs.length ≤ c) (hlen : (Lib.join (xs.map (·.data.toList)) sep.data.toList).length ≤ 140737488355328) :
    Calls Tryz.prog 40 #[.slice (some ⟨bk, o, none⟩) xs.length c, .string sep] w fun e w' => e = .returned (.string ⟨(Lib.join (xs.map (·.data.toList)) sep.data.toList).toArray⟩) ∧ Below w.heap.size w w' := Any.strings_Join Tryz.lays156 Tryz.Builder_Extra_156 bk o c xs sep w hcells hbk hN hcap hlen
def Tryz.laysM173_ren : Go.Shelf.Ren := ⟨fun | 173 => 136 | 246 => 145 | 283 => 153 | 284 => 154 | 285 => 155 | 286 => 156 | 129 => 169 | 317 => 168 | 318 => 170 | 319 => 171 | 320 => 172 | 337 => 175 | 338 => 176 | n => n, fun | 2 => 2 | 3 => 3 | 9 => 9 | 4 => 4 | 171 => 159 | 0 => 0 | 53 => 150 | 37 => 42 | 5 => 5 | 173 => 162 | 212 => 171 | 51 => 172 | 20 => 20 | 213 => 173 | 46 => 153 | 232 => 180 | 233 => 181 | n => n, fun | 17 => 3 | 18 => 4 | 19 => 5 | n => n⟩
theorem Tryz.laysM173 : Go.Proofs.LaysM.n173 Tryz.prog Tryz.laysM173_ren := {
  mixed := by kernel_rfl
  f129 := Tryz.func169.trans (congrArg some (by kernel_rfl))
  f173 := Tryz.func136.trans (congrArg some (by kernel_rfl))
  f246 := Tryz.func145.trans (congrArg some (by kernel_rfl))
  f283 := Tryz.func153.trans (congrArg some (by kernel_rfl))
  f284 := Tryz.func154.trans (congrArg some (by kernel_rfl))
  f285 := Tryz.func155.trans (congrArg some (by kernel_rfl))
  f286 := Tryz.func156.trans (congrArg some (by kernel_rfl))
  f317 := Tryz.func168.trans (congrArg some (by kernel_rfl))
  f318 := Tryz.func170.trans (congrArg some (by kernel_rfl))
  f319 := Tryz.func171.trans (congrArg some (by kernel_rfl))
  f320 := Tryz.func172.trans (congrArg some (by kernel_rfl))
  f337 := Tryz.func175.trans (congrArg some (by kernel_rfl))
  f338 := Tryz.func176.trans (congrArg some (by kernel_rfl))
  t0 := Tryz.underlying0
  a0 := Tryz.isAgg0
  z0 := Tryz.sizeOf0
  v0 := Tryz.zeroValue0
  t2 := Tryz.underlying2
  a2 := Tryz.isAgg2
  z2 := Tryz.sizeOf2
  v2 := Tryz.zeroValue2
  t3 := Tryz.underlying3
  a3 := Tryz.isAgg3
  z3 := Tryz.sizeOf3
  v3 := Tryz.zeroValue3
  t4 := Tryz.underlying4
  a4 := Tryz.isAgg4
  z4 := Tryz.sizeOf4
  v4 := Tryz.zeroValue4
  t5 := Tryz.underlying5
  a5 := Tryz.isAgg5
  z5 := Tryz.sizeOf5
  v5 := Tryz.zeroValue5
  t9 := Tryz.underlying9
  a9 := Tryz.isAgg9
  z9 := Tryz.sizeOf9
  v9 := Tryz.zeroValue9
  t20 := Tryz.underlying20
  a20 := Tryz.isAgg20
  z20 := Tryz.sizeOf20
  v20 := Tryz.zeroValue20
  t37 := Tryz.underlying42
  a37 := Tryz.isAgg42
  z37 := Tryz.sizeOf42
  v37 := Tryz.zeroValue42
  t46 := Tryz.underlying153
  a46 := Tryz.isAgg153
  z46 := Tryz.sizeOf153
  v46 := Tryz.zeroValue153
  t51 := Tryz.underlying172
  a51 := Tryz.isAgg172
  z51 := Tryz.sizeOf172
  v51 := Tryz.zeroValue172
  t53 := Tryz.underlying150
  a53 := Tryz.isAgg150
  z53 := Tryz.sizeOf150
  v53 := Tryz.zeroValue150
  t171 := Tryz.underlying159
  a171 := Tryz.isAgg159
  z171 := Tryz.sizeOf159
  v171 := Tryz.zeroValue159
  t173 := Tryz.underlying162
  a173 := Tryz.isAgg162
  z173 := Tryz.sizeOf162
  v173 := Tryz.zeroValue162
  t212 := Tryz.underlying171
  a212 := Tryz.isAgg171
  z212 := Tryz.sizeOf171
  v212 := Tryz.zeroValue171
  t213 := Tryz.underlying173
  a213 := Tryz.isAgg173
  z213 := Tryz.sizeOf173
  t232 := Tryz.underlying180
  a232 := Tryz.isAgg180
  z232 := Tryz.sizeOf180
  v232 := Tryz.zeroValue180
  t233 := Tryz.underlying181
  a233 := Tryz.isAgg181
  z233 := Tryz.sizeOf181
  v233 := Tryz.zeroValue181
  g17 := by kernel_rfl
  g18 := by kernel_rfl
  g19 := by kernel_rfl
  i0 := by kernel_rfl
  i2 := by kernel_rfl
  i3 := by kernel_rfl
  i4 := by kernel_rfl
  i5 := by kernel_rfl
  i9 := by kernel_rfl
  i20 := by kernel_rfl
  i37 := by kernel_rfl
  i46 := by kernel_rfl
  i51 := by kernel_rfl
  i53 := by kernel_rfl
  i171 := by kernel_rfl
  i173 := by kernel_rfl
  i212 := by kernel_rfl
  i232 := by kernel_rfl
  i233 := by kernel_rfl
  m17 := by kernel_rfl
  m18 := by kernel_rfl
  m19 := by kernel_rfl }
open Go.RowKit Go.Sort Go.Lib in
theorem Tryz.strconv_FormatInt_10 (n : Int) (h0 : -9223372036854775808 ≤ n) (h1 : n ≤ 9223372036854775807) (w : World) (htab : Lib.TabIs Tryz.prog w "internal/strconv.uint64pow10" .u64 Lib.pow10Tab) :
    Calls Tryz.prog 136 #[.int .i64 n, .int .i64 10] w fun e w' => e = .returned (.string ⟨(Lib.itoa n).toArray⟩) ∧ ∃ k os, w' = grow (w.drewN k) os := Any.strconv_FormatInt_10 Tryz.laysM173 n h0 h1 w htab
end Go.Proofs
end
section
namespace Go.Proofs.YtlkggpjdaaglmaaGreatDoor.lx
open Go.ChangeShapes Go.WideShapes Go.ChangeAt Go.RowKit
open bs
set_option linter.unusedVariables false
theorem digits_own (n : Int) (w : World) (hT : Lib.TabIs Tryz.prog w "internal/strconv.uint64pow10" .u64 Lib.pow10Tab) (h0 : -9223372036854775808 ≤ n) (h1 : n ≤ 9223372036854775807) : Calls Tryz.prog 117 #[.int .i64 n] w fun e w' => e = .returned (.string (numT n)) ∧ Below w.heap.size w w' := by
  have HC := Lib.hid (Tryz.strconv_FormatInt_10 n h0 h1 w hT)
  clear hT
  go_enter Tryz.func117, Tryz.ntmps117
  go_wp2_with fail
  refine (HC.out).mono ?_
  rintro e w' ⟨rfl, k, os, rfl⟩
  have HB := Lib.hid (Lib.below_grow w.heap.size w (Nat.le_refl _) k os)
  generalize Go.Sort.grow (w.drewN k) os = W at HB ⊢
  go_wp2
  go_ret
  exact ⟨rfl, HB.out⟩
end Go.Proofs.YtlkggpjdaaglmaaGreatDoor.lx
namespace Go.Proofs.YtlkggpjdaaglmaaGreatDoor.am
open Go.ChangeShapes Go.WideShapes Go.ChangeAt Go.RowKit
set_option linter.unusedVariables false
def LibN (L : List (Nat × Array Value)) : Prop := (3, (Lib.pow10Tab.map fun z => Value.int .u64 z).toArray) ∈ L
theorem n_tabN : Tryz.prog.globalNamed "internal/strconv.uint64pow10" = some 3 := by kernel_rfl
theorem tab_of_lib {L : List (Nat × Array Value)} (hL : LibN L) {γ : Nat → G} {S : CS} {w : World} {x : Nat} (h : Obj' γ S w x (.lib L)) : Lib.TabIs Tryz.prog w "internal/strconv.uint64pow10" .u64 Lib.pow10Tab := lib_var h n_tabN hL (by decide)
theorem lib_of_gl {w : World} (h : Lib.TabIs Tryz.prog w "internal/strconv.uint64pow10" .u64 Lib.pow10Tab) : ∃ L, LibN L ∧ ∀ p ∈ L, ∀ o, p.1 < w.heap.size ∧ w.cell? ⟨p.1, o, none⟩ = p.2[o]? := by
  refine ⟨[(3, (Lib.pow10Tab.map fun z => Value.int .u64 z).toArray)], .head _, ?_⟩
  intro p hp o
  rcases List.mem_cons.1 hp with rfl | hp
  · exact var_lib n_tabN h o
  · cases hp
end Go.Proofs.YtlkggpjdaaglmaaGreatDoor.am
end
section
namespace Go.Proofs.YtlkggpjdaaglmaaGreatDoor.am
open Go.ChangeShapes Go.WideShapes Go.ChangeAt Go.RowKit
open vt
set_option linter.unusedVariables false
set_option linter.unusedSimpArgs false
theorem digits_row (LL : List (Nat × Array Value)) (hLL : LibN LL) (n : Int) (h0 : -9223372036854775808 ≤ n) (h1 : n ≤ 9223372036854775807) : Row Tryz.prog 117 [vI n] [.lib LL] (vS (wNum n)) [some (.lib LL)] := by
  refine ⟨⟨_, Tryz.func117, rfl, rfl⟩, spec_of_below fun γ S w vs hm hv => ?_⟩
  match vs, hv with
  | [v0], ⟨k0, _⟩ =>
    obtain ⟨rfl, _⟩ := lit_inv k0
    refine (lx.digits_own n w (tab_of_lib hLL (hm.obj 0 _ rfl)) h0 h1).mono ?_
    rintro e w' ⟨rfl, hb⟩
    exact ⟨_, rfl, hb, .lit _ rfl⟩
set_option maxRecDepth 100000 in
set_option maxHeartbeats 4000000 in
theorem spelln_row (LL : List (Nat × Array Value)) (s : ByteArray) : Row Tryz.prog 79 [vK ⟨1, 0, s, 0, 0⟩] [.lib LL] (vS s) [some (.lib LL)] := by
  refine row_of Tryz.func79 rfl rfl (Nat.le_of_ble_eq_true rfl) ?_
  repeat (first | refine aw_seq ?_ | refine aw_skip ?_ | refine aw_block ?_ | refine aw_exit ?_ | refine aw_cond rfl (fun _ => ?_) (fun hb => absurd hb (by decide)) | refine aw_cond rfl (fun hb => absurd hb (by decide)) (fun _ => ?_) | (refine aw_reg (fun K hK => ?_); simp -implicitDefEqProofs; refine hK _ ?_) | (refine aw_drw mixd (fun K hK => ?_); simp -implicitDefEqProofs; refine hK _ _ (by rfl) ?_) | fail)
  refine aw_ret (fin_box ?_); simp -implicitDefEqProofs [FinB, resV, resT] <;> try rfl
set_option maxRecDepth 100000 in
set_option maxHeartbeats 4000000 in
theorem spelld_row (LL : List (Nat × Array Value)) (hLL : LibN LL) (n : Int) (h0 : -9223372036854775808 ≤ n) (h1 : n ≤ 9223372036854775807) : Row Tryz.prog 79 [vK ⟨2, n, ⟨#[]⟩, 0, 0⟩] [.lib LL] (vS (wNum n)) [some (.lib LL)] := by
  have e := digits_row LL hLL n h0 h1
  refine row_of Tryz.func79 rfl rfl (Nat.le_of_ble_eq_true rfl) ?_
  repeat' (first | refine aw_seq ?_ | refine aw_skip ?_ | refine aw_block ?_ | refine aw_exit ?_ | refine aw_cond rfl (fun _ => ?_) (fun hb => absurd hb (by decide)) | refine aw_cond rfl (fun hb => absurd hb (by decide)) (fun _ => ?_) | (refine aw_reg (fun K hK => ?_); simp -implicitDefEqProofs) | (refine aw_drw mixd (fun K hK => ?_); simp -implicitDefEqProofs) | refine hK _ ?_ | refine hK _ _ (by rfl) ?_ | (refine ar_call (cb e 0 ?_); simp -implicitDefEqProofs) | (refine ard_call (db e 0 ?_); simp -implicitDefEqProofs) | fail)
  refine aw_ret (fin_box ?_); simp -implicitDefEqProofs [FinB, resV, resT] <;> try rfl
set_option maxRecDepth 100000 in
set_option maxHeartbeats 4000000 in
theorem name_row (LL : List (Nat × Array Value)) (L : List ByteArray) (s : ByteArray) (h : L.length + 1 ≤ 1000000) : PRow LL 42 [vS s] L [s] := by
  have e := spelln_row LL s
  have p := put_row LL L [s] h
  refine row_of Tryz.func42 rfl rfl (Nat.le_of_ble_eq_true rfl) ?_
  repeat' (first | refine aw_seq ?_ | refine aw_skip ?_ | refine aw_block ?_ | refine aw_exit ?_ | refine aw_cond rfl (fun _ => ?_) (fun hb => absurd hb (by decide)) | refine aw_cond rfl (fun hb => absurd hb (by decide)) (fun _ => ?_) | (refine aw_reg (fun K hK => ?_); simp -implicitDefEqProofs) | (refine aw_drw mixd (fun K hK => ?_); simp -implicitDefEqProofs) | refine hK _ ?_ | refine hK _ _ (by rfl) ?_ | (refine ar_call (cb e 2 ?_); simp -implicitDefEqProofs) | (refine ard_call (db e 2 ?_); simp -implicitDefEqProofs) | (refine ar_call (cgw p 0 2 rfl ?_); simp -implicitDefEqProofs) | (refine ard_call (dgw p 0 2 rfl ?_); simp -implicitDefEqProofs) | fail)
  refine fin_fall (fin_gw rfl ?_); simp -implicitDefEqProofs [FinG, resV, resT] <;> try rfl
set_option maxRecDepth 100000 in
set_option maxHeartbeats 4000000 in
theorem number_row (LL : List (Nat × Array Value)) (hLL : LibN LL) (L : List ByteArray) (n : Int) (h0 : -9223372036854775808 ≤ n) (h1 : n ≤ 9223372036854775807) (h : L.length + 1 ≤ 1000000) : PRow LL 63 [vI n] L [wNum n] := by
  have e := spelld_row LL hLL n h0 h1
  have p := put_row LL L [wNum n] h
  refine row_of Tryz.func63 rfl rfl (Nat.le_of_ble_eq_true rfl) ?_
  repeat' (first | refine aw_seq ?_ | refine aw_skip ?_ | refine aw_block ?_ | refine aw_exit ?_ | refine aw_cond rfl (fun _ => ?_) (fun hb => absurd hb (by decide)) | refine aw_cond rfl (fun hb => absurd hb (by decide)) (fun _ => ?_) | (refine aw_reg (fun K hK => ?_); simp -implicitDefEqProofs) | (refine aw_drw mixd (fun K hK => ?_); simp -implicitDefEqProofs) | refine hK _ ?_ | refine hK _ _ (by rfl) ?_ | (refine ar_call (cb e 2 ?_); simp -implicitDefEqProofs) | (refine ard_call (db e 2 ?_); simp -implicitDefEqProofs) | (refine ar_call (cgw p 0 2 rfl ?_); simp -implicitDefEqProofs) | (refine ard_call (dgw p 0 2 rfl ?_); simp -implicitDefEqProofs) | fail)
  refine fin_fall (fin_gw rfl ?_); simp -implicitDefEqProofs [FinG, resV, resT] <;> try rfl
set_option maxRecDepth 100000 in
set_option maxHeartbeats 4000000 in
theorem ptyp_row (LL : List (Nat × Array Value)) (hLL : LibN LL) {t : VT} {W : List ByteArray} (hW : WT t W) : ∀ L : List ByteArray, L.length + W.length ≤ 1000000 → PRow LL 28 [vT t] L W := by
  induction hW with
  | int x h =>
    intro L hL
    have p := put_row LL L [wInt] hL
    refine row_of Tryz.func28 rfl rfl (Nat.le_of_ble_eq_true rfl) ?_
    repeat' (first | refine aw_seq ?_ | refine aw_skip ?_ | refine aw_block ?_ | refine aw_exit ?_ | refine aw_cond rfl (fun _ => ?_) (fun hb => absurd hb (by decide)) | refine aw_cond rfl (fun hb => absurd hb (by decide)) (fun _ => ?_) | (refine aw_reg (fun K hK => ?_); simp -implicitDefEqProofs [h]) | (refine aw_drw mixd (fun K hK => ?_); simp -implicitDefEqProofs [h]) | refine hK _ ?_ | refine hK _ _ (by rfl) ?_ | (refine ar_call (cgw p 0 2 rfl ?_); simp -implicitDefEqProofs [h]) | (refine ard_call (dgw p 0 2 rfl ?_); simp -implicitDefEqProofs [h]) | fail)
    refine fin_fall (fin_gw rfl ?_); simp -implicitDefEqProofs [FinG, resV, resT] <;> try rfl
  | bool x h =>
    intro L hL
    have p := put_row LL L [wBool] hL
    refine row_of Tryz.func28 rfl rfl (Nat.le_of_ble_eq_true rfl) ?_
    repeat' (first | refine aw_seq ?_ | refine aw_skip ?_ | refine aw_block ?_ | refine aw_exit ?_ | refine aw_cond rfl (fun _ => ?_) (fun hb => absurd hb (by decide)) | refine aw_cond rfl (fun hb => absurd hb (by decide)) (fun _ => ?_) | (refine aw_reg (fun K hK => ?_); simp -implicitDefEqProofs [h]) | (refine aw_drw mixd (fun K hK => ?_); simp -implicitDefEqProofs [h]) | refine hK _ ?_ | refine hK _ _ (by rfl) ?_ | (refine ar_call (cgw p 0 2 rfl ?_); simp -implicitDefEqProofs [h]) | (refine ard_call (dgw p 0 2 rfl ?_); simp -implicitDefEqProofs [h]) | fail)
    refine fin_fall (fin_gw rfl ?_); simp -implicitDefEqProofs [FinG, resV, resT] <;> try rfl
  | rec' x h hs =>
    intro L hL
    have p := name_row LL L x.s hL
    refine row_of Tryz.func28 rfl rfl (Nat.le_of_ble_eq_true rfl) ?_
    repeat' (first | refine aw_seq ?_ | refine aw_skip ?_ | refine aw_block ?_ | refine aw_exit ?_ | refine aw_cond rfl (fun _ => ?_) (fun hb => absurd hb (by decide)) | refine aw_cond rfl (fun hb => absurd hb (by decide)) (fun _ => ?_) | (refine aw_reg (fun K hK => ?_); simp -implicitDefEqProofs [h]) | (refine aw_drw mixd (fun K hK => ?_); simp -implicitDefEqProofs [h]) | refine hK _ ?_ | refine hK _ _ (by rfl) ?_ | (refine ar_call (cgw p 0 2 rfl ?_); simp -implicitDefEqProofs [h]) | (refine ard_call (dgw p 0 2 rfl ?_); simp -implicitDefEqProofs [h]) | fail)
    refine fin_fall (fin_gw rfl ?_); simp -implicitDefEqProofs [FinG, resV, resT] <;> try rfl
  | arr x a al A h h0 h1 ha ih =>
    intro L hL
    simp only [List.length_append, List.length_cons, List.length_nil] at hL
    have p1 := put_row LL L [sOpen] (by simp; omega)
    have p2 := number_row LL hLL (L ++ [sOpen]) x.n h0 h1 (by simp; omega)
    have p3 := put_row LL (L ++ [sOpen] ++ [wNum x.n]) [sShut] (by simp; omega)
    have p4 := ih (L ++ [sOpen] ++ [wNum x.n] ++ [sShut]) (by simp; omega)
    have q := part_row x [.mk a al] 0 (.mk a al) rfl (by omega)
    refine row_of Tryz.func28 rfl rfl (Nat.le_of_ble_eq_true rfl) ?_
    repeat' (first | refine aw_seq ?_ | refine aw_skip ?_ | refine aw_block ?_ | refine aw_exit ?_ | refine aw_cond rfl (fun _ => ?_) (fun hb => absurd hb (by decide)) | refine aw_cond rfl (fun hb => absurd hb (by decide)) (fun _ => ?_) | (refine aw_reg (fun K hK => ?_); simp -implicitDefEqProofs [h]) | (refine aw_drw mixd (fun K hK => ?_); simp -implicitDefEqProofs [h]) | refine hK _ ?_ | refine hK _ _ (by rfl) ?_ | (refine ar_call (cgw p1 0 2 rfl ?_); simp -implicitDefEqProofs [h]) | (refine ard_call (dgw p1 0 2 rfl ?_); simp -implicitDefEqProofs [h]) | (refine ar_call (cgw p2 0 2 rfl ?_); simp -implicitDefEqProofs [h]) | (refine ard_call (dgw p2 0 2 rfl ?_); simp -implicitDefEqProofs [h]) | (refine ar_call (cgw p3 0 2 rfl ?_); simp -implicitDefEqProofs [h]) | (refine ard_call (dgw p3 0 2 rfl ?_); simp -implicitDefEqProofs [h]) | (refine ar_call (cp q ?_); simp -implicitDefEqProofs [h]) | (refine ard_call (dp q ?_); simp -implicitDefEqProofs [h]) | (refine ar_call (cgw p4 0 2 rfl ?_); simp -implicitDefEqProofs [h]) | (refine ard_call (dgw p4 0 2 rfl ?_); simp -implicitDefEqProofs [h]) | fail)
    refine fin_fall (fin_gw rfl ?_); simp -implicitDefEqProofs [FinG, resV, resT] <;> try rfl
end Go.Proofs.YtlkggpjdaaglmaaGreatDoor.am
end
section
namespace Go.Proofs.YtlkggpjdaaglmaaGreatDoor.am
open Go.ChangeShapes Go.WideShapes Go.ChangeAt Go.RowKit
open vt
set_option linter.unusedVariables false
set_option linter.unusedSimpArgs false
set_option maxRecDepth 100000 in
set_option maxHeartbeats 4000000 in
theorem operand_row (LL : List (Nat × Array Value)) (x : Lab) (l : List VT) (A : List ByteArray) (hx : Opd x) (n : Int) (hA : A ≠ []) (he : ∀ L : List ByteArray, L.length + 3 * A.length ≤ 1000000 → PRow LL 45 [vT (.mk x l)] L A) (L : List ByteArray) (hL : L.length + 3 * (par (tgh x) A n).length ≤ 1000000) : PRow LL 83 [vT (.mk x l), vI n] L (par (tgh x) A n) := by
  have eb := bind_row x l hx
  have hA := List.length_pos_iff.2 hA
  by_cases c : n ≤ tgh x
  · have t : par (tgh x) A n = A := by unfold par; rw [if_pos c]
    rw [t] at hL ⊢
    have p1 := he L hL
    generalize tgh x = b at eb c
    refine row_of Tryz.func83 rfl rfl (Nat.le_of_ble_eq_true rfl) ?_
    repeat' (first | refine aw_seq ?_ | refine aw_skip ?_ | refine aw_block ?_ | refine aw_exit ?_ | refine aw_cond rfl (fun _ => ?_) (fun hb => absurd hb (by decide)) | refine aw_cond rfl (fun hb => absurd hb (by decide)) (fun _ => ?_) | (refine aw_reg (fun K hK => ?_); simp -implicitDefEqProofs [c]) | (refine aw_drw mixd (fun K hK => ?_); simp -implicitDefEqProofs [c]) | refine hK _ ?_ | refine hK _ _ (by rfl) ?_ | (refine ar_call (cp eb ?_); simp -implicitDefEqProofs [c]) | (refine ard_call (dp eb ?_); simp -implicitDefEqProofs [c]) | (refine ar_call (cgw p1 0 2 rfl ?_); simp -implicitDefEqProofs [c]) | (refine ard_call (dgw p1 0 2 rfl ?_); simp -implicitDefEqProofs [c]) | fail)
    refine aw_ret (fin_gw rfl ?_); simp -implicitDefEqProofs [FinG, resV, resT] <;> try rfl
  · have t : par (tgh x) A n = [sParO] ++ A ++ [sParS] := by unfold par; rw [if_neg c]
    rw [t] at hL ⊢
    simp only [List.length_append, List.length_cons, List.length_nil] at hL
    have p1 := put_row LL L [sParO] (by simp; omega)
    have p2 := he (L ++ [sParO]) (by simp; omega)
    have p3 := put_row LL (L ++ [sParO] ++ A) [sParS] (by simp; omega)
    have e : L ++ ([sParO] ++ A ++ [sParS]) = L ++ [sParO] ++ A ++ [sParS] := by simp
    show Row _ _ _ _ _ [some (bxW 3 (ws (L ++ ([sParO] ++ A ++ [sParS])))), _, _, _]
    rw [e]
    generalize tgh x = b at eb c
    refine row_of Tryz.func83 rfl rfl (Nat.le_of_ble_eq_true rfl) ?_
    repeat' (first | refine aw_seq ?_ | refine aw_skip ?_ | refine aw_block ?_ | refine aw_exit ?_ | refine aw_cond rfl (fun _ => ?_) (fun hb => absurd hb (by decide)) | refine aw_cond rfl (fun hb => absurd hb (by decide)) (fun _ => ?_) | (refine aw_reg (fun K hK => ?_); simp -implicitDefEqProofs [c]) | (refine aw_drw mixd (fun K hK => ?_); simp -implicitDefEqProofs [c]) | refine hK _ ?_ | refine hK _ _ (by rfl) ?_ | (refine ar_call (cp eb ?_); simp -implicitDefEqProofs [c]) | (refine ard_call (dp eb ?_); simp -implicitDefEqProofs [c]) | (refine ar_call (cgw p1 0 2 rfl ?_); simp -implicitDefEqProofs [c]) | (refine ard_call (dgw p1 0 2 rfl ?_); simp -implicitDefEqProofs [c]) | (refine ar_call (cgw p2 0 2 rfl ?_); simp -implicitDefEqProofs [c]) | (refine ard_call (dgw p2 0 2 rfl ?_); simp -implicitDefEqProofs [c]) | (refine ar_call (cgw p3 0 2 rfl ?_); simp -implicitDefEqProofs [c]) | (refine ard_call (dgw p3 0 2 rfl ?_); simp -implicitDefEqProofs [c]) | fail)
    refine fin_fall (fin_gw rfl ?_); simp -implicitDefEqProofs [FinG, resV, resT] <;> try rfl
set_option maxRecDepth 100000 in
set_option maxHeartbeats 4000000 in
theorem plist_row (LL : List (Nat × Array Value)) (g : Nat) (sep : ByteArray) (l : List VT) (Ws : List (List ByteArray)) (hl : l.length = Ws.length) (hn : l.length ≤ 1000000) (he : ∀ (i : Nat) t W, l[i]? = some t → Ws[i]? = some W → ∀ L : List ByteArray, L.length + 3 * W.length ≤ 1000000 → PRow LL g [vT t] L W) (L : List ByteArray) (hL : L.length + 3 * (pre (if sep = ⟨#[]⟩ then [] else [sep]) Ws).length ≤ 1000000) : PRow LL 43 [vLs l, vS sep, .v (.c (.fn (.func g) [.ptr 0 0] []))] L (pre (if sep = ⟨#[]⟩ then [] else [sep]) Ws) := by
  obtain ⟨S, hS⟩ : ∃ S, (if sep = ⟨#[]⟩ then [] else [sep]) = S := ⟨_, rfl⟩
  rw [hS] at hL ⊢
  have hpre := pre_len (sep := S) (Ws := Ws)
  have hstep := fun k W h => pre_take (sep := S) (Ws := Ws) (k := k) (W := W) h
  have h0 : pre S [] = [] := rfl
  have hend : pre S (Ws.take Ws.length) = pre S Ws := by rw [List.take_length]
  refine row_of Tryz.func43 rfl rfl (Nat.le_of_ble_eq_true rfl) ?_
  refine aw_mvr 1 0 0 _ 9 1 1 (ws L) rfl rfl rfl (show 1 < 3 by decide) (show 0 < 3 by decide) ?_
  simp [St.mvr]
  repeat (first | refine aw_seq ?_ | refine aw_skip ?_ | refine aw_block ?_ | refine aw_exit ?_ | refine aw_cond rfl (fun _ => ?_) (fun hb => absurd hb (by decide)) | refine aw_cond rfl (fun hb => absurd hb (by decide)) (fun _ => ?_) | (refine aw_reg (fun K hK => ?_); simp -implicitDefEqProofs; refine hK _ ?_) | (refine aw_drw mixd (fun K hK => ?_); simp -implicitDefEqProofs; refine hK _ _ (by rfl) ?_) | fail)
  refine aw_lp (ι := Nat) (fun k => mkSt [(0, .v (.c (.ptr 0 0))), (2, vS sep), (3, .v (.c (.fn (.func g) [.ptr 0 0] []))), (10, vLs l), (11, vI (l.length : Nat)), (12, vI (k : Nat))] [some (bxW 3 (ws (L ++ pre S (Ws.take k)))), none, some (.lib LL), some rwS]) (fun k => k ≤ l.length) (fun k => l.length - k) 0 (Nat.zero_le _) (cov_w rfl (by simp -implicitDefEqProofs [h0]) (by simp -implicitDefEqProofs [h0]) (by decide) rfl (by simp)) (fun Z hI k hk => ?_)
  by_cases hkl : k < l.length; rotate_left
  · have hke : k = Ws.length := by omega
    subst hke
    rw [hend]
    have hlt : ¬ Ws.length < l.length := by omega
    repeat (first | refine aw_seq ?_ | refine aw_skip ?_ | refine aw_block ?_ | refine aw_exit ?_ | refine aw_cond rfl (fun _ => ?_) (fun hb => absurd hb (by decide)) | refine aw_cond rfl (fun hb => absurd hb (by decide)) (fun _ => ?_) | (refine aw_reg (fun K hK => ?_); simp -implicitDefEqProofs [hlt]; refine hK _ ?_) | (refine aw_drw mixd (fun K hK => ?_); simp -implicitDefEqProofs [hlt]; refine hK _ _ (by rfl) ?_) | fail)
    refine fin_fall (fin_gw rfl ?_); simp -implicitDefEqProofs [FinG, resV, resT] <;> try rfl
  obtain ⟨⟨ux, ul⟩, hu⟩ : ∃ a, l[k]? = some a := ⟨_, List.getElem?_eq_getElem hkl⟩
  have hu' := (List.getElem?_eq_some_iff.1 hu).2
  obtain ⟨W, hW⟩ : ∃ a, Ws[k]? = some a := ⟨_, List.getElem?_eq_getElem (by omega)⟩
  have hs := hstep k W hW
  have hp1 := hpre (k + 1) (by omega)
  have hp0 := hpre k (by omega)
  have w2 : IntKind.i64.wrap ((k : Nat) + 1 : Int) = (k : Nat) + 1 := i64i _ (by omega) (by omega)
  rw [hs] at hp1
  have nx : Z (k + 1) = mkSt [(0, .v (.c (.ptr 0 0))), (2, vS sep), (3, .v (.c (.fn (.func g) [.ptr 0 0] []))), (10, vLs l), (11, vI (l.length : Nat)), (12, vI ((k + 1 : Nat) : Int))] [some (bxW 3 (ws (L ++ (pre S (Ws.take k) ++ ((if k = 0 then [] else S) ++ W))))), none, some (.lib LL), some rwS] := by rw [hI, hs]
  clear hI hs hstep hpre hend
  generalize pre S (Ws.take k) = P0 at *
  rw [List.length_append, List.length_append] at hp1
  by_cases hk0 : (if k = 0 then [] else S) = []
  · rw [hk0, List.nil_append] at nx
    have q := he k (.mk ux ul) W hu hW (L ++ P0) (by rw [List.length_append]; omega)
    by_cases hkz : k = 0
    · have hkp : ¬ 0 < k := by omega
      clear hkz
      repeat' (first | refine aw_seq ?_ | refine aw_skip ?_ | refine aw_block ?_ | refine aw_exit ?_ | refine aw_cond rfl (fun _ => ?_) (fun hb => absurd hb (by decide)) | refine aw_cond rfl (fun hb => absurd hb (by decide)) (fun _ => ?_) | (refine aw_reg (fun K hK => ?_); simp -implicitDefEqProofs [hkl, hu, hu', hkp, w2]) | (refine aw_drw mixd (fun K hK => ?_); simp -implicitDefEqProofs [hkl, hu, hu', hkp, w2]) | refine hK _ ?_ | refine hK _ _ (by rfl) ?_ | (refine ar_call (cgw q 0 2 rfl ?_); simp -implicitDefEqProofs [hkl, hu, hu', hkp, w2]) | (refine ard_call (dgw q 0 2 rfl ?_); simp -implicitDefEqProofs [hkl, hu, hu', hkp, w2]) | fail)
      refine ⟨k + 1, by omega, (by dsimp only; omega), ?_⟩; rw [nx]; exact cov_w rfl (by simp -implicitDefEqProofs) (by simp -implicitDefEqProofs) (by decide) rfl (by simp)
    · have hsp : sep = ⟨#[]⟩ := by
        rw [if_neg hkz] at hk0
        by_cases e : sep = ⟨#[]⟩
        · exact e
        · rw [if_neg e] at hS; rw [← hS] at hk0; cases hk0
      have hkp : 0 < k := by omega
      repeat' (first | refine aw_seq ?_ | refine aw_skip ?_ | refine aw_block ?_ | refine aw_exit ?_ | refine aw_cond rfl (fun _ => ?_) (fun hb => absurd hb (by decide)) | refine aw_cond rfl (fun hb => absurd hb (by decide)) (fun _ => ?_) | (refine aw_reg (fun K hK => ?_); simp -implicitDefEqProofs [hkl, hu, hu', hsp, hkp, w2]) | (refine aw_drw mixd (fun K hK => ?_); simp -implicitDefEqProofs [hkl, hu, hu', hsp, hkp, w2]) | refine hK _ ?_ | refine hK _ _ (by rfl) ?_ | (refine ar_call (cgw q 0 2 rfl ?_); simp -implicitDefEqProofs [hkl, hu, hu', hsp, hkp, w2]) | (refine ard_call (dgw q 0 2 rfl ?_); simp -implicitDefEqProofs [hkl, hu, hu', hsp, hkp, w2]) | fail)
      refine ⟨k + 1, by omega, (by dsimp only; omega), ?_⟩; rw [nx]; exact cov_w rfl (by simp -implicitDefEqProofs [hsp]) (by simp -implicitDefEqProofs [hsp]) (by decide) rfl (by simp)
  · have hkz : k ≠ 0 := fun e => hk0 (if_pos e)
    rw [if_neg hkz] at hk0 hp1 nx
    have hsp : ¬ sep = ⟨#[]⟩ := fun e => hk0 (by rw [← hS, if_pos e])
    rw [if_neg hsp] at hS
    subst hS
    have hkp : 0 < k := by omega
    have p := put_row LL (L ++ P0) [sep] (by rw [List.length_append]; simp at hp1 ⊢; omega)
    have q := he k (.mk ux ul) W hu hW (L ++ P0 ++ [sep]) (by simp at hp1 ⊢; omega)
    repeat' (first | refine aw_seq ?_ | refine aw_skip ?_ | refine aw_block ?_ | refine aw_exit ?_ | refine aw_cond rfl (fun _ => ?_) (fun hb => absurd hb (by decide)) | refine aw_cond rfl (fun hb => absurd hb (by decide)) (fun _ => ?_) | (refine aw_reg (fun K hK => ?_); simp -implicitDefEqProofs [hkl, hu, hu', hsp, hkp, w2]) | (refine aw_drw mixd (fun K hK => ?_); simp -implicitDefEqProofs [hkl, hu, hu', hsp, hkp, w2]) | refine hK _ ?_ | refine hK _ _ (by rfl) ?_ | (refine ar_call (cgw p 0 2 rfl ?_); simp -implicitDefEqProofs [hkl, hu, hu', hsp, hkp, w2]) | (refine ard_call (dgw p 0 2 rfl ?_); simp -implicitDefEqProofs [hkl, hu, hu', hsp, hkp, w2]) | (refine ar_call (cgw q 0 2 rfl ?_); simp -implicitDefEqProofs [hkl, hu, hu', hsp, hkp, w2]) | (refine ard_call (dgw q 0 2 rfl ?_); simp -implicitDefEqProofs [hkl, hu, hu', hsp, hkp, w2]) | fail)
    refine ⟨k + 1, by omega, (by dsimp only; omega), ?_⟩; rw [nx]; exact cov_w rfl (by simp -implicitDefEqProofs) (by simp -implicitDefEqProofs) (by decide) rfl (by simp)
end Go.Proofs.YtlkggpjdaaglmaaGreatDoor.am
end
