/-
  The library's Grow, Clone, Concat of terms.
-/
import Derived.Test.YtjmjillfclfkgaaAm19
import Derived.Test.YtjmjillfclfkgaaVt
import Derived.Test.YtjmjillfclfkgaaTd
import Derived.Lib.AppendZerosOnto
import Derived.Lib.SliceRun
import Derived.Lib.Walk
namespace Go.Proofs.Ytjmjillfclfkgaa.am
open Go.ChangeShapes Go.WideShapes Go.ChangeAt Go.RowKit
open vt
set_option linter.unusedVariables false
set_option linter.unusedSimpArgs false
theorem td_termss : td Try.prog 71 = some ⟨false, 1, 24, [.nilS], [], (.slice 22)⟩ := Eq.trans (by kernel_rfl) (Eq.refl _)
attribute [simp] td_termss

theorem grown_new {w : World} {γ : Nat → G} {S : CS} (hm : Mem ⟨w, S, γ⟩ (fun x => ([] : List AO)[x]?) (fun x => ([] : List AO).length ≤ x) γ S w) (e : TypeId) (es : Nat) (cs : Array Value) (cap : Nat) (hmost : cap ≤ 9223372036854775807) (hcs : cs.size = cap * es) :
    ∃ γ' S', Mem ⟨w, S, γ⟩ (fun x => ([some (AO.row e es)][x]?).join) (fun x => [some (AO.row e es)].length ≤ x) γ' S' (w.drew.alloc (.cells cs e)) ∧ RepV γ' S' (w.drew.alloc (.cells cs e)) (.slice (some ⟨w.heap.size, 0, none⟩) 0 cap) (.v (.c (.row 0 es []))) := by
  obtain ⟨γ', S', m, _, _, _, hr⟩ := newrow (nm := 0) hm.drew (Nat.zero_le _) e es (l := []) (fun e h => by simp at h) cs cap (Nat.zero_le _) hmost hcs ⟨by simp, fun i c h => by simp at h⟩
  refine ⟨γ', S', ?_, hr⟩
  have e1 : upd (fun x => ([] : List AO)[x]?) 0 (some (AO.row e es)) = fun x => ([some (AO.row e es)][x]?).join := by
    funext x
    cases x with
    | zero => rfl
    | succ x => rw [upd_ne _ _ (by omega)]; simp
  rw [e1] at m
  exact m.less (fun x hx => ⟨Nat.zero_le _, by have : 1 ≤ x := hx
                                               omega⟩)
theorem grown_nil {w : World} {γ : Nat → G} {S : CS} (hm : Mem ⟨w, S, γ⟩ (fun x => ([] : List AO)[x]?) (fun x => ([] : List AO).length ≤ x) γ S w) (e : TypeId) (es : Nat) :
    ∃ γ' S', Mem ⟨w, S, γ⟩ (fun x => ([some (AO.row e es)][x]?).join) (fun x => [some (AO.row e es)].length ≤ x) γ' S' w ∧ RepV γ' S' w (.slice none 0 0) (.v (.c (.row 0 es []))) := by
  have m := hm.nilrow (nm := 0) (Nat.zero_le _) e es
  refine ⟨upd γ 0 (.val (.slice none 0 0)), S, ?_, nil_row_rep (γ := γ) (v := .slice none 0 0) RepP.nilS (upd_same γ 0 _)⟩
  have e1 : upd (fun x => ([] : List AO)[x]?) 0 (some (AO.row e es)) = fun x => ([some (AO.row e es)][x]?).join := by
    funext x
    cases x with
    | zero => rfl
    | succ x => rw [upd_ne _ _ (by omega)]; simp
  rw [e1] at m
  exact m.less (fun x hx => ⟨Nat.zero_le _, by have : 1 ≤ x := hx
                                               omega⟩)

set_option maxRecDepth 100000 in
set_option maxHeartbeats 400000 in
theorem growT_row (n : Nat) (hb : n * 72 ≤ 140737488355328) : Row Try.prog 58 [.v (.c (.pv .nilS)), vI n] [] (.v (.c (.row 0 6 []))) [some (.row 24 6)] := by
  refine ⟨⟨_, Try.func58, rfl, rfl⟩, fun γ S w vs hm hv => ?_⟩
  match vs, hv with
  | [v0, v1], ⟨h0, h1, _⟩ =>
    obtain rfl := nilS_inv h0
    obtain ⟨rfl, _⟩ := lit_inv h1
    clear h0 h1
    obtain ⟨i0, ud, z, T⟩ := td_ok td_term
    have hz2 : i0.bytes = 72 := T.bytes
    have hz3 : i0.size = 6 := T.sz
    have hn : n ≤ 140737488355328 := by omega
    rcases Nat.eq_zero_or_pos n with rfl | h1
    · have HM := Lib.hid (grown_nil hm 24 6)
      clear hm T hz2 hz3
      go_enter Try.func58, Try.ntmps58
      go_wp2
      go_ret
      obtain ⟨γ', S', m, r⟩ := HM.out
      first | exact ⟨_, γ', S', rfl, m, r⟩ | exact ⟨_, rfl, γ', S', m, r⟩
    · have hrz : ∀ ty, (Builtin.append_ #[22, 3] ty #[.slice none 0 0, .int .i64 (n : Int)]).run Try.prog w =
          .ok (.slice (some ⟨w.heap.size, 0, none⟩) n (grownCap w n 0 24)) (w.drew.alloc (.cells (#[] ++ Builtin.zeroCells z.cells n ++ Builtin.zeroCells z.cells (grownCap w n 0 24 - n)) 24)) := fun ty => by
        have h := Lib.run_append_grow_zeros (P := Try.prog) w 22 3 ty 24 i0 z .i64 .i64 Try.underlying22 Try.underlying3 T.info T.zer none 0 0 [] (run_firstCells_none w.drew i0.size 0 0 0) n (by omega) (by omega) (by omega) (by omega) (by rw [hz2]; omega)
          (by rw [Nat.zero_add]; exact growslice_fits (by omega) (by rw [hz2]; omega))
        rw [Nat.zero_add] at h
        exact h
      have hGn : n ≤ grownCap w n 0 24 := grownCap_ge w _ _ _
      have hGm : grownCap w n 0 24 ≤ maxLen := grownCap_le_maxLen w n 0 _ (by unfold maxLen; omega)
      generalize grownCap w n 0 24 = G at hrz hGn hGm
      have hG63 : G ≤ 9223372036854775807 := by unfold maxLen at hGm; omega
      have HM := Lib.hid (grown_new hm 24 6 (#[] ++ Builtin.zeroCells z.cells n ++ Builtin.zeroCells z.cells (G - n)) G hG63 (by
        simp only [Array.size_append, size_zeroCells, Array.size_empty, T.zsize]
        show 0 + n * 6 + (G - n) * 6 = G * 6
        omega))
      generalize w.drew.alloc (.cells (#[] ++ Builtin.zeroCells z.cells n ++ Builtin.zeroCells z.cells (G - n)) 24) = V at hrz HM
      have y0 : ¬ (n : Int) < 0 := by omega
      have y1 : 0 < (n : Int) := by omega
      clear hm T hz2 hz3 hGm
      go_enter Try.func58, Try.ntmps58
      go_wp2_with (at_builtin; refine Lib.wpList_append_run _ rfl _ _ _ _ rfl _ _ rfl rfl _ _ (hrz _) ?_)
      go_ret
      obtain ⟨γ', S', m, r⟩ := HM.out
      exact ⟨_, rfl, γ', S', m, r⟩

set_option maxRecDepth 100000 in
set_option maxHeartbeats 4000000 in
theorem cloneT_row (l : List VT) (hb : l.length * 72 ≤ 140737488355328) : Row Try.prog 35 [vLs l] [] (vLs l) [] := by
  have hb2 : l.length ≤ 140737488355328 := by omega
  refine row_of Try.func35 rfl rfl (Nat.le_of_ble_eq_true rfl) ?_
  cases l with
  | nil =>
    repeat' (first | refine aw_seq ?_ | refine aw_skip ?_ | refine aw_block ?_ | refine aw_exit ?_ | refine aw_cond rfl (fun _ => ?_) (fun hb => absurd hb (by decide)) | refine aw_cond rfl (fun hb => absurd hb (by decide)) (fun _ => ?_) | (refine aw_reg (fun K hK => ?_); simp -implicitDefEqProofs [vLs, *]) | (refine aw_drw mixd (fun K hK => ?_); simp -implicitDefEqProofs [vLs, *]) | refine hK _ ?_ | refine hK _ _ (by rfl) ?_ | (refine aw_cond rfl (fun hb => ?_) (fun hb => ?_) <;> ((try simp only [decide_eq_true_eq, decide_eq_false_iff_not, Bool.not_eq_true', Bool.not_eq_false', Bool.not_eq_eq_eq_not, Bool.not_true, Bool.not_false, beq_iff_eq, beq_true, beq_false, bne_iff_ne, ne_eq, Decidable.not_not, Bool.and_eq_true, Bool.or_eq_true, Bool.and_eq_false_iff, Bool.or_eq_false_iff] at hb) <;> repeat' (refine Or.elim hb (fun hb => ?_) (fun hb => ?_)))) | (refine gx_split (fun hb => ?_) (fun hb => ?_) <;> ((try simp only [decide_eq_true_eq, decide_eq_false_iff_not, Bool.not_eq_true', Bool.not_eq_false', Bool.not_eq_eq_eq_not, Bool.not_true, Bool.not_false, beq_iff_eq, beq_true, beq_false, bne_iff_ne, ne_eq, Decidable.not_not, Bool.and_eq_true, Bool.or_eq_true, Bool.and_eq_false_iff, Bool.or_eq_false_iff] at hb) <;> repeat' (refine Or.elim hb (fun hb => ?_) (fun hb => ?_))) <;> simp -implicitDefEqProofs [vLs, *]) | (refine gxd_split (fun hb => ?_) (fun hb => ?_) <;> ((try simp only [decide_eq_true_eq, decide_eq_false_iff_not, Bool.not_eq_true', Bool.not_eq_false', Bool.not_eq_eq_eq_not, Bool.not_true, Bool.not_false, beq_iff_eq, beq_true, beq_false, bne_iff_ne, ne_eq, Decidable.not_not, Bool.and_eq_true, Bool.or_eq_true, Bool.and_eq_false_iff, Bool.or_eq_false_iff] at hb) <;> repeat' (refine Or.elim hb (fun hb => ?_) (fun hb => ?_))) <;> simp -implicitDefEqProofs [vLs, *]) | fail)
    · refine aw_flag rfl ?_ ?_
      · repeat' (first | refine aw_seq ?_ | refine aw_skip ?_ | refine aw_block ?_ | refine aw_exit ?_ | refine aw_cond rfl (fun _ => ?_) (fun hb => absurd hb (by decide)) | refine aw_cond rfl (fun hb => absurd hb (by decide)) (fun _ => ?_) | (refine aw_reg (fun K hK => ?_); simp -implicitDefEqProofs [*]) | (refine aw_drw mixd (fun K hK => ?_); simp -implicitDefEqProofs [*]) | refine hK _ ?_ | refine hK _ _ (by rfl) ?_ | (refine aw_cond rfl (fun hb => ?_) (fun hb => ?_) <;> ((try simp only [decide_eq_true_eq, decide_eq_false_iff_not, Bool.not_eq_true', Bool.not_eq_false', Bool.not_eq_eq_eq_not, Bool.not_true, Bool.not_false, beq_iff_eq, beq_true, beq_false, bne_iff_ne, ne_eq, Decidable.not_not, Bool.and_eq_true, Bool.or_eq_true, Bool.and_eq_false_iff, Bool.or_eq_false_iff] at hb) <;> repeat' (refine Or.elim hb (fun hb => ?_) (fun hb => ?_)))) | (refine gx_split (fun hb => ?_) (fun hb => ?_) <;> ((try simp only [decide_eq_true_eq, decide_eq_false_iff_not, Bool.not_eq_true', Bool.not_eq_false', Bool.not_eq_eq_eq_not, Bool.not_true, Bool.not_false, beq_iff_eq, beq_true, beq_false, bne_iff_ne, ne_eq, Decidable.not_not, Bool.and_eq_true, Bool.or_eq_true, Bool.and_eq_false_iff, Bool.or_eq_false_iff] at hb) <;> repeat' (refine Or.elim hb (fun hb => ?_) (fun hb => ?_))) <;> simp -implicitDefEqProofs [*]) | (refine gxd_split (fun hb => ?_) (fun hb => ?_) <;> ((try simp only [decide_eq_true_eq, decide_eq_false_iff_not, Bool.not_eq_true', Bool.not_eq_false', Bool.not_eq_eq_eq_not, Bool.not_true, Bool.not_false, beq_iff_eq, beq_true, beq_false, bne_iff_ne, ne_eq, Decidable.not_not, Bool.and_eq_true, Bool.or_eq_true, Bool.and_eq_false_iff, Bool.or_eq_false_iff] at hb) <;> repeat' (refine Or.elim hb (fun hb => ?_) (fun hb => ?_))) <;> simp -implicitDefEqProofs [*]) | fail)
        refine aw_ret (fin_ret ?_); simp -implicitDefEqProofs [FinP, resV, resT] <;> try rfl
      · repeat' (first | refine aw_seq ?_ | refine aw_skip ?_ | refine aw_block ?_ | refine aw_exit ?_ | refine aw_cond rfl (fun _ => ?_) (fun hb => absurd hb (by decide)) | refine aw_cond rfl (fun hb => absurd hb (by decide)) (fun _ => ?_) | (refine aw_reg (fun K hK => ?_); simp -implicitDefEqProofs [*]) | (refine aw_drw mixd (fun K hK => ?_); simp -implicitDefEqProofs [*]) | refine hK _ ?_ | refine hK _ _ (by rfl) ?_ | (refine aw_cond rfl (fun hb => ?_) (fun hb => ?_) <;> ((try simp only [decide_eq_true_eq, decide_eq_false_iff_not, Bool.not_eq_true', Bool.not_eq_false', Bool.not_eq_eq_eq_not, Bool.not_true, Bool.not_false, beq_iff_eq, beq_true, beq_false, bne_iff_ne, ne_eq, Decidable.not_not, Bool.and_eq_true, Bool.or_eq_true, Bool.and_eq_false_iff, Bool.or_eq_false_iff] at hb) <;> repeat' (refine Or.elim hb (fun hb => ?_) (fun hb => ?_)))) | (refine gx_split (fun hb => ?_) (fun hb => ?_) <;> ((try simp only [decide_eq_true_eq, decide_eq_false_iff_not, Bool.not_eq_true', Bool.not_eq_false', Bool.not_eq_eq_eq_not, Bool.not_true, Bool.not_false, beq_iff_eq, beq_true, beq_false, bne_iff_ne, ne_eq, Decidable.not_not, Bool.and_eq_true, Bool.or_eq_true, Bool.and_eq_false_iff, Bool.or_eq_false_iff] at hb) <;> repeat' (refine Or.elim hb (fun hb => ?_) (fun hb => ?_))) <;> simp -implicitDefEqProofs [*]) | (refine gxd_split (fun hb => ?_) (fun hb => ?_) <;> ((try simp only [decide_eq_true_eq, decide_eq_false_iff_not, Bool.not_eq_true', Bool.not_eq_false', Bool.not_eq_eq_eq_not, Bool.not_true, Bool.not_false, beq_iff_eq, beq_true, beq_false, bne_iff_ne, ne_eq, Decidable.not_not, Bool.and_eq_true, Bool.or_eq_true, Bool.and_eq_false_iff, Bool.or_eq_false_iff] at hb) <;> repeat' (refine Or.elim hb (fun hb => ?_) (fun hb => ?_))) <;> simp -implicitDefEqProofs [*]) | fail)
        refine aw_ret (fin_ret ?_); simp -implicitDefEqProofs [FinP, resV, resT] <;> try rfl
  | cons y l =>
    obtain ⟨yx, yl⟩ := y
    have hb' : (l.length + 1) * 72 ≤ 140737488355328 := hb
    have hb2' : l.length + 1 ≤ 140737488355328 := hb2
    repeat' (first | refine aw_seq ?_ | refine aw_skip ?_ | refine aw_block ?_ | refine aw_exit ?_ | refine aw_cond rfl (fun _ => ?_) (fun hb => absurd hb (by decide)) | refine aw_cond rfl (fun hb => absurd hb (by decide)) (fun _ => ?_) | (refine aw_reg (fun K hK => ?_); simp -implicitDefEqProofs [hb', hb2', vLs, *]) | (refine aw_drw mixd (fun K hK => ?_); simp -implicitDefEqProofs [hb', hb2', vLs, *]) | refine hK _ ?_ | refine hK _ _ (by rfl) ?_ | (refine aw_cond rfl (fun hb => ?_) (fun hb => ?_) <;> ((try simp only [decide_eq_true_eq, decide_eq_false_iff_not, Bool.not_eq_true', Bool.not_eq_false', Bool.not_eq_eq_eq_not, Bool.not_true, Bool.not_false, beq_iff_eq, beq_true, beq_false, bne_iff_ne, ne_eq, Decidable.not_not, Bool.and_eq_true, Bool.or_eq_true, Bool.and_eq_false_iff, Bool.or_eq_false_iff] at hb) <;> repeat' (refine Or.elim hb (fun hb => ?_) (fun hb => ?_)))) | (refine gx_split (fun hb => ?_) (fun hb => ?_) <;> ((try simp only [decide_eq_true_eq, decide_eq_false_iff_not, Bool.not_eq_true', Bool.not_eq_false', Bool.not_eq_eq_eq_not, Bool.not_true, Bool.not_false, beq_iff_eq, beq_true, beq_false, bne_iff_ne, ne_eq, Decidable.not_not, Bool.and_eq_true, Bool.or_eq_true, Bool.and_eq_false_iff, Bool.or_eq_false_iff] at hb) <;> repeat' (refine Or.elim hb (fun hb => ?_) (fun hb => ?_))) <;> simp -implicitDefEqProofs [hb', hb2', vLs, *]) | (refine gxd_split (fun hb => ?_) (fun hb => ?_) <;> ((try simp only [decide_eq_true_eq, decide_eq_false_iff_not, Bool.not_eq_true', Bool.not_eq_false', Bool.not_eq_eq_eq_not, Bool.not_true, Bool.not_false, beq_iff_eq, beq_true, beq_false, bne_iff_ne, ne_eq, Decidable.not_not, Bool.and_eq_true, Bool.or_eq_true, Bool.and_eq_false_iff, Bool.or_eq_false_iff] at hb) <;> repeat' (refine Or.elim hb (fun hb => ?_) (fun hb => ?_))) <;> simp -implicitDefEqProofs [hb', hb2', vLs, *]) | fail)
    refine aw_ret (fin_ret ?_); simp -implicitDefEqProofs [FinP, resV, resT] <;> try rfl

/-- A call that gives a slice of its own. -/
theorem call_row {P : Program} {N f : Nat} {dst : Option Nat} {args cargs : List AV} {e : TypeId} {es : Nat} {l : List (List PV)} {st : St} {K : St → Prop} (hrow : Row P f cargs [] (.v (.c (.row 0 es l))) [some (.row e es)]) (hfit : fitVs 0 (fun _ => 0) cargs args) (hd : dok N dst = true) (hk : K ((st.wr [(st.nx, some (.row e es))] 8).put dst (.v (.c (.row st.nx es l))))) :
    CallK P N dst (.v (.c (.fn (.func f) [] []))) args st K :=
  ⟨f, [], [], cargs, [], _, _, [], rfl, hrow, by simpa using hfit, trivial, List.nodup_nil, by simp, by simp, hd, by simpa [wrs, nmap, AV.ren, AT.ren, AC.ren, AO.ren] using hk⟩

theorem flat_take {ls : List (List VT)} {k : Nat} {y : List VT} (h : ls[k]? = some y) : (ls.take (k + 1)).flatten = (ls.take k).flatten ++ y := by
  rw [List.take_add_one, h]; simp
theorem flat_le {ls : List (List VT)} (k : Nat) : (ls.take k).flatten.length ≤ ls.flatten.length := by
  conv => rhs; rw [← List.take_append_drop k ls]
  rw [List.flatten_append, List.length_append]; omega
noncomputable abbrev vLL (ls : List (List VT)) : AV := .v (.c (.pv (.sl 1 (ls.map fun l => [PV.sl 6 (l.map tc)]))))
set_option maxRecDepth 100000 in
set_option maxHeartbeats 4000000 in
theorem concatT_row (ls : List (List VT)) (hls : ls.length ≤ 1000000) (hb : ls.flatten.length * 72 ≤ 140737488355328) : Row Try.prog 38 [vLL ls] [] (vLs ls.flatten) [] := by
  refine row_of Try.func38 rfl rfl (Nat.le_of_ble_eq_true rfl) ?_
  repeat' (first | refine aw_seq ?_ | refine aw_skip ?_ | refine aw_block ?_ | refine aw_exit ?_ | refine aw_cond rfl (fun _ => ?_) (fun hb => absurd hb (by decide)) | refine aw_cond rfl (fun hb => absurd hb (by decide)) (fun _ => ?_) | (refine aw_reg (fun K hK => ?_); simp -implicitDefEqProofs [*]) | (refine aw_drw mixd (fun K hK => ?_); simp -implicitDefEqProofs [*]) | refine hK _ ?_ | refine hK _ _ (by rfl) ?_ | (refine aw_cond rfl (fun hb => ?_) (fun hb => ?_) <;> ((try simp only [decide_eq_true_eq, decide_eq_false_iff_not, Bool.not_eq_true', Bool.not_eq_false', Bool.not_eq_eq_eq_not, Bool.not_true, Bool.not_false, beq_iff_eq, beq_true, beq_false, bne_iff_ne, ne_eq, Decidable.not_not, Bool.and_eq_true, Bool.or_eq_true, Bool.and_eq_false_iff, Bool.or_eq_false_iff] at hb) <;> repeat' (refine Or.elim hb (fun hb => ?_) (fun hb => ?_)))) | (refine gx_split (fun hb => ?_) (fun hb => ?_) <;> ((try simp only [decide_eq_true_eq, decide_eq_false_iff_not, Bool.not_eq_true', Bool.not_eq_false', Bool.not_eq_eq_eq_not, Bool.not_true, Bool.not_false, beq_iff_eq, beq_true, beq_false, bne_iff_ne, ne_eq, Decidable.not_not, Bool.and_eq_true, Bool.or_eq_true, Bool.and_eq_false_iff, Bool.or_eq_false_iff] at hb) <;> repeat' (refine Or.elim hb (fun hb => ?_) (fun hb => ?_))) <;> simp -implicitDefEqProofs [*]) | (refine gxd_split (fun hb => ?_) (fun hb => ?_) <;> ((try simp only [decide_eq_true_eq, decide_eq_false_iff_not, Bool.not_eq_true', Bool.not_eq_false', Bool.not_eq_eq_eq_not, Bool.not_true, Bool.not_false, beq_iff_eq, beq_true, beq_false, bne_iff_ne, ne_eq, Decidable.not_not, Bool.and_eq_true, Bool.or_eq_true, Bool.and_eq_false_iff, Bool.or_eq_false_iff] at hb) <;> repeat' (refine Or.elim hb (fun hb => ?_) (fun hb => ?_))) <;> simp -implicitDefEqProofs [*]) | fail)
  refine aw_lp (ι := Nat) (fun k => mkSt [(0, vLL ls), (3, vI ((ls.take k).flatten.length : Nat)), (9, vLL ls), (10, vI (ls.length : Nat)), (11, vI (k : Nat))] []) (fun k => k ≤ ls.length) (fun k => ls.length - k) 0 (Nat.zero_le _) (cov_intro [] (by simp -implicitDefEqProofs) (by simp -implicitDefEqProofs) (by decide) rfl (by simp)) (fun Z hI k hk => ?_)
  by_cases hkl : k < ls.length
  · obtain ⟨y, hy⟩ : ∃ y, ls[k]? = some y := ⟨_, List.getElem?_eq_getElem hkl⟩
    have hy' := (List.getElem?_eq_some_iff.1 hy).2
    have hs := flat_take hy
    have hf := flat_le (ls := ls) (k + 1)
    rw [hs, List.length_append] at hf
    obtain ⟨m, hm⟩ : ∃ m, (ls.take k).flatten.length = m := ⟨_, rfl⟩
    rw [hm] at hf ⊢
    have w1 : IntKind.i64.wrap ((m : Nat) + (y.length : Nat) : Int) = (m : Nat) + (y.length : Nat) := i64i _ (by omega) (by omega)
    have w2 : IntKind.i64.wrap ((k : Nat) + 1 : Int) = (k : Nat) + 1 := i64i _ (by omega) (by omega)
    have h0 : ¬ ((m : Nat) + (y.length : Nat) : Int) < 0 := by omega
    clear hb hls
    repeat (first | refine aw_seq ?_ | refine aw_skip ?_ | refine aw_block ?_ | refine aw_exit ?_ | refine aw_cond rfl (fun _ => ?_) (fun hb => absurd hb (by decide)) | refine aw_cond rfl (fun hb => absurd hb (by decide)) (fun _ => ?_) | (refine aw_reg (fun K hK => ?_); simp -implicitDefEqProofs [hkl, hy, hy', w1, w2, h0]; refine hK _ ?_) | (refine aw_drw mixd (fun K hK => ?_); simp -implicitDefEqProofs [hkl, hy, hy', w1, w2, h0]; refine hK _ _ (by rfl) ?_) | fail)
    refine ⟨k + 1, by omega, (by dsimp only; omega), ?_⟩; rw [hI]; exact cov_intro [] (by simp -implicitDefEqProofs [hs, hm]) (by simp -implicitDefEqProofs [hs, hm]) (by decide) rfl (by simp)
  have hkl : k = ls.length := by omega
  subst hkl
  rw [List.take_length]
  have hg := growT_row ls.flatten.length hb
  repeat (first | refine aw_seq ?_ | refine aw_skip ?_ | refine aw_block ?_ | refine aw_exit ?_ | refine aw_cond rfl (fun _ => ?_) (fun hb => absurd hb (by decide)) | refine aw_cond rfl (fun hb => absurd hb (by decide)) (fun _ => ?_) | (refine aw_reg (fun K hK => ?_); simp -implicitDefEqProofs; refine hK _ ?_) | (refine aw_drw mixd (fun K hK => ?_); simp -implicitDefEqProofs; refine hK _ _ (by rfl) ?_) | fail)
  refine aw_reg (fun K hK => ?_); simp -implicitDefEqProofs
  refine ar_call (call_row hg (by simp) rfl ?_)
  simp -implicitDefEqProofs; refine hK _ ?_
  clear hg
  repeat (first | refine aw_seq ?_ | refine aw_skip ?_ | refine aw_block ?_ | refine aw_exit ?_ | refine aw_cond rfl (fun _ => ?_) (fun hb => absurd hb (by decide)) | refine aw_cond rfl (fun hb => absurd hb (by decide)) (fun _ => ?_) | (refine aw_reg (fun K hK => ?_); simp -implicitDefEqProofs; refine hK _ ?_) | (refine aw_drw mixd (fun K hK => ?_); simp -implicitDefEqProofs; refine hK _ _ (by rfl) ?_) | fail)
  refine aw_lp (ι := Nat) (fun k => mkSt [(6, .v (.c (.row 0 6 ((ls.take k).flatten.map tc)))), (25, vLL ls), (26, vI (ls.length : Nat)), (27, vI (k : Nat))] [some (.row 24 6)]) (fun k => k ≤ ls.length) (fun k => ls.length - k) 0 (Nat.zero_le _) (cov_intro [2] (by simp -implicitDefEqProofs) (by simp -implicitDefEqProofs) (by decide) rfl (by simp)) (fun Z hI k hk => ?_)
  by_cases hkl : k < ls.length
  · obtain ⟨y, hy⟩ : ∃ y, ls[k]? = some y := ⟨_, List.getElem?_eq_getElem hkl⟩
    have hy' := (List.getElem?_eq_some_iff.1 hy).2
    have hs := flat_take hy
    have hf := flat_le (ls := ls) (k + 1)
    rw [hs, List.length_append] at hf
    obtain ⟨L, hL⟩ : ∃ L, (ls.take k).flatten = L := ⟨_, rfl⟩
    rw [hL] at hs hf ⊢
    have w2 : IntKind.i64.wrap ((k : Nat) + 1 : Int) = (k : Nat) + 1 := i64i _ (by omega) (by omega)
    have b1 : (L.length + y.length) * 72 ≤ 140737488355328 := by omega
    have b2 : L.length + y.length ≤ 140737488355328 := by omega
    repeat (first | refine aw_seq ?_ | refine aw_skip ?_ | refine aw_block ?_ | refine aw_exit ?_ | refine aw_cond rfl (fun _ => ?_) (fun hb => absurd hb (by decide)) | refine aw_cond rfl (fun hb => absurd hb (by decide)) (fun _ => ?_) | (refine aw_reg (fun K hK => ?_); simp -implicitDefEqProofs [hkl, hy, hy', w2, b1, b2]; refine hK _ ?_) | (refine aw_drw mixd (fun K hK => ?_); simp -implicitDefEqProofs [hkl, hy, hy', w2, b1, b2]; refine hK _ _ (by rfl) ?_) | fail)
    refine ⟨k + 1, by omega, (by dsimp only; omega), ?_⟩; rw [hI]; exact cov_intro [7] (by simp -implicitDefEqProofs [hs, hL]) (by simp -implicitDefEqProofs [hs, hL]) (by decide) rfl (by simp)
  have hkl : k = ls.length := by omega
  subst hkl
  rw [List.take_length]
  repeat (first | refine aw_seq ?_ | refine aw_skip ?_ | refine aw_block ?_ | refine aw_exit ?_ | refine aw_cond rfl (fun _ => ?_) (fun hb => absurd hb (by decide)) | refine aw_cond rfl (fun hb => absurd hb (by decide)) (fun _ => ?_) | (refine aw_reg (fun K hK => ?_); simp -implicitDefEqProofs; refine hK _ ?_) | (refine aw_drw mixd (fun K hK => ?_); simp -implicitDefEqProofs; refine hK _ _ (by rfl) ?_) | fail)
  refine aw_ret (fin_ret ?_); simp -implicitDefEqProofs [FinP, resV, resT] <;> try rfl
end Go.Proofs.Ytjmjillfclfkgaa.am
