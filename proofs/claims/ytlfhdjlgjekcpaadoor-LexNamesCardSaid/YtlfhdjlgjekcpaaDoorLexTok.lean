/-
  Layer 5: a token in a block of its own; the scanner's name.
-/
import Derived.Test.YtlfhdjlgjekcpaaDoorLexWord
import Derived.Laws.Tables
import Derived.BigQuiet
import Derived.Deep.CutRange
namespace Go.Proofs.YtlfhdjlgjekcpaaDoor.lx
open Go.ChangeShapes Go.WideShapes Go.ChangeAt Go.RowKit
open bs
set_option linter.unusedVariables false

/-- A token in a block of its own. -/
abbrev KB (w : World) (g : Nat) (x : Tk) : Prop := Blk w g x.row 31
theorem row_one (x : Tk) : (x.row : Array Value).all (·.oneCell') = true := by simp [Value.oneCell']
theorem row_len (x : Tk) : x.cells.length = 5 := rfl
theorem cells_one (x : Tk) : ∀ u ∈ x.cells, u.oneCell' = true := by
  intro u hu
  simp [Tk.cells] at hu
  rcases hu with rfl | rfl | rfl | rfl | rfl <;> rfl

/-- Nothing but block g is turned. -/
structure Only (w w' : World) (g : Nat) : Prop where
  os : w'.os = w.os
  tape : w'.tape = w.tape
  output : w'.output = w.output
  size : w'.heap.size = w.heap.size
  block : ∀ k, k ≠ g → w'.heap[k]? = w.heap[k]?
theorem Only.below {w w' : World} {g B : Nat} (h : Only w w' g) (hB : B ≤ g) : Below B w w' := ⟨h.os, h.tape, h.output, Nat.le_of_eq h.size.symm, fun k hk => h.block k (by omega)⟩
theorem only_setRow (w : World) (g : Nat) (cs : Array Value) : Only w (w.setRow g cs) g := ⟨rfl, rfl, rfl, by simp [World.setRow], fun k hk => Go.setRow_other w g k cs hk⟩
theorem blk_setRow {w : World} {g : Nat} {cs cs' : Array Value} {t : TypeId} (h : Blk w g cs t) : Blk (w.setRow g cs') g cs' t := setRow_heap w g cs cs' t (0, 0) h
theorem size_alloc (w : World) (o : Obj) : (w.alloc o).heap.size = w.heap.size + 1 := by simp
theorem below_alloc (w : World) (o : Obj) : Below w.heap.size w (w.alloc o) := (Below.refl _ _).alloc (Nat.le_refl _) _

section
variable {w : World} {ops : Array Oper} {rest : List Oper} {o : Oper} {a : Act} {Q : Exit → Act → World → Prop}
theorem wpList_store_K (hgd : o.guard = none) (x y : Operand) (ho : o.op = .store 31 x y) {g : Nat} (hx : a.eval x = .pointer (some ⟨g, 0, none⟩)) {u : Tk} (hr : KB w g u) (v : Tk) (hy : a.eval y = v.val)
    (k : ∀ w', KB w' g v → Only w w' g → wpList Tryd.prog ops Q rest (a.put o.dst undef) w') : wpList Tryd.prog ops Q (o :: rest) a w :=
  wpList_store_row hgd 31 x y ho g v.row hx hy 31 _ hr (by kernel_rfl) rfl (row_one v) (k _ (blk_setRow hr) (only_setRow _ _ _))
theorem wpList_load_K (hgd : o.guard = none) (x : Operand) (ho : o.op = .load 31 x) {g : Nat} (hx : a.eval x = .pointer (some ⟨g, 0, none⟩)) {v : Tk} (hr : KB w g v)
    (h : wpList Tryd.prog ops Q rest (a.put o.dst v.val) w) : wpList Tryd.prog ops Q (o :: rest) a w :=
  wpList_load_row hgd 31 x ho g hx 31 _ (0, 0) _ hr Tryd.underlying31 rfl (by kernel_rfl) h
end
theorem results_cell_tmp {P : Program} {fn : Func} {p q : Tmp} {ty : TypeId} (h : fn.results = #[.cell p ty, .tmp q]) (tmps : Array Value) (w : World) (g : Nat) (t : TypeId) (cs : Array Value) (d : TypeDesc)
    (hp : tmps.getD p undef = .pointer (some ⟨g, 0, none⟩)) (hg : Blk w g cs t)
    (hu : P.underlying ty = some d) (hd : (match d with | .struct _ | .array _ _ => true | _ => false) = true) (hi : (P.info? ty).map (·.size) = some cs.size) :
    (results fn tmps).run P w = .ok (.tuple #[.agg cs, tmps.getD q undef]) w := by
  have hp' : tmps[p]?.getD undef = .pointer (some ⟨g, 0, none⟩) := by simpa using hp
  simp [results, h, hp', asAddr, run_loadVar_row w g t ty cs _ d hg hu hd hi]

/-- A token, or what is wrong. -/
def TP (r : Tk × Int) (w : World) (e : Ending) (w' : World) : Prop := e = .returned (.tuple #[r.1.val, .int .i64 r.2]) ∧ Below w.heap.size w w'

theorem kb_new (w : World) (x : Tk) : KB (w.alloc (.cells x.row 31)) w.heap.size x := Blk.new w _ _

set_option maxRecDepth 100000 in
set_option maxHeartbeats 2000000 in
theorem name_any (sb : Nat) (s : ByteArray) (i : Nat) (w : World) (hS : Sc w sb s i) (hi : i < s.size) (hm : s.size ≤ 100000) (hL : isL (B s i) = true) :
    Calls Tryd.prog 32 #[.pointer (some ⟨sb, 0, none⟩)] w (TP (on s i) w) := by
  have hmf : ∀ (fn : Fn) (first cap : Array Value) (w : World), (Instr.makeFunc fn first cap).run Tryd.prog w = .ok (.func fn first cap) w := fun _ _ _ _ => rfl
  have HW := Lib.hid (below_alloc w (.cells #[.int .i64 0, .int .i64 0, .string ⟨#[]⟩, .int .i64 0, .int .i64 0] 31))
  have HK : Hid (KB (w.alloc (.cells #[.int .i64 0, .int .i64 0, .string ⟨#[]⟩, .int .i64 0, .int .i64 0] 31)) w.heap.size tk0) := kb_new w tk0
  have HS := Lib.hid (hS.below (below_alloc w (.cells #[.int .i64 0, .int .i64 0, .string ⟨#[]⟩, .int .i64 0, .int .i64 0] 31)))
  have hbd := run_bd isN s i (by omega)
  have HL := Lib.hid hL
  clear hS hL
  go_enter Tryd.func32, Tryd.ntmps32
  go_upto_region 1 with fail
  generalize hWW : w.alloc (.cells #[.int .i64 0, .int .i64 0, .string ⟨#[]⟩, .int .i64 0, .int .i64 0] 31) = W at HW HK HS ⊢
  clear hWW
  go_wp2_with fail
  refine (run_any (on_name sb) s i W HS.out (by omega) hm).mono ?_
  rintro e w' ⟨rfl, rfl⟩
  have c0 : w'.cell? ⟨sb, 0, none⟩ = some (.string s) := by simpa using HS.out.cell 0
  have c1 : w'.cell? ⟨sb, 1, none⟩ = some (.int .i64 i) := by simpa using HS.out.cell 1
  obtain ⟨r, hr⟩ : ∃ r, run isN s i = r := ⟨_, rfl⟩
  rw [hr] at hbd ⊢
  have HR := Lib.hid hr
  have hcut : (s.extract i r).size = r - i := size_cut s i r hbd.1 hbd.2
  have HCUT := Lib.hid hcut
  obtain ⟨hb1, hb2⟩ := hbd
  clear hr hcut
  go_wp2_with fail
  go_quiet (fail)
  have HK2 := Lib.hid (HK.out.drewN nq); have HS2 : Hid (Sc (w'.drewN nq) sb s i) := Lib.hid (HS.out.drewN nq)
  have HB2 := Lib.hid (below_drewN HW.out nq)
  clear c0 c1 HK HS HW
  generalize w'.drewN nq = V at HK2 HS2 HB2 ⊢
  have c1 : V.cell? ⟨sb, 1, none⟩ = some (.int .i64 i) := by simpa using HS2.out.cell 1
  obtain ⟨v, hv⟩ : ∃ v, s.extract i r = v := ⟨_, rfl⟩
  rw [hv]
  have HV := Lib.hid hv
  by_cases hlong : 16 < r - i
  · have d1 : decide ((16 : Int) < v.size) = true := decide_eq_true (by rw [← hv, HCUT.out]; omega)
    have HLONG := Lib.hid hlong
    clear hlong hv
    go_wp2_with (refine wpList_store_K rfl _ _ rfl rfl HK2.out tk0 rfl ?_)
    intro w5 hv5 ho5
    have HV5 := Lib.hid hv5; have HB5 := Lib.hid (HB2.out.trans (ho5.below (Nat.le_refl _)))
    clear ho5
    go_wp2
    try simp only [Exit.inBlock, Exit.then]
    refine bodyPost_ret (results_cell_tmp rfl _ _ w.heap.size _ _ _ rfl hv5 Tryd.underlying31 rfl (by kernel_rfl)) rfl ?_
    have e : on s i = (tk0, 3) := tk_long HL.out (by rw [HR.out]; exact HLONG.out)
    rw [e]
    exact ⟨rfl, HB5.out⟩
  · have d1 : decide ((16 : Int) < v.size) = false := decide_eq_false (by rw [← hv, HCUT.out]; omega)
    have HLONG := Lib.hid hlong
    clear hlong hv
    go_wp2_with fail
    refine (word_any v V).mono ?_
    rintro e V' ⟨rfl, rfl⟩
    have fin : ∀ (kk : Int) (w5 : World), kk = (if isW v = true then 3 else 1) → KB w5 w.heap.size ⟨kk, 0, v, i, r⟩ → Only V' w5 w.heap.size → TP (on s i) w (.returned (.tuple #[(⟨kk, 0, v, i, r⟩ : Tk).val, .int .i64 0])) w5 := fun kk w5 hkk h5 ho5 => by
      have e : on s i = _ := tk_name HL.out (by rw [HR.out]; exact HLONG.out)
      rw [e, HR.out, HV.out, ← hkk]
      exact ⟨rfl, HB2.out.trans (ho5.below (Nat.le_refl _))⟩
    have FIN := Lib.hid fin
    clear fin
    rcases Bool.eq_false_or_eq_true (isW v) with hw | hw
    · rw [hw]
      have HWv := Lib.hid hw
      clear hw
      go_wp2_with (refine wpList_store_K rfl _ _ rfl rfl HK2.out ⟨3, 0, v, i, r⟩ rfl ?_)
      intro w5 hv5 ho5
      have HO5 := Lib.hid ho5
      clear ho5
      go_wp2
      try simp only [Exit.inBlock, Exit.then]
      refine bodyPost_ret (results_cell_tmp rfl _ _ w.heap.size _ _ _ rfl hv5 Tryd.underlying31 rfl (by kernel_rfl)) rfl ?_
      exact FIN.out 3 w5 (by rw [HWv.out]; rfl) hv5 HO5.out
    · rw [hw]
      have HWv := Lib.hid hw
      clear hw
      go_wp2_with (refine wpList_store_K rfl _ _ rfl rfl HK2.out ⟨1, 0, v, i, r⟩ rfl ?_)
      intro w5 hv5 ho5
      have HO5 := Lib.hid ho5
      clear ho5
      go_wp2
      try simp only [Exit.inBlock, Exit.then]
      refine bodyPost_ret (results_cell_tmp rfl _ _ w.heap.size _ _ _ rfl hv5 Tryd.underlying31 rfl (by kernel_rfl)) rfl ?_
      exact FIN.out 1 w5 (by rw [HWv.out]; rfl) hv5 HO5.out
end Go.Proofs.YtlfhdjlgjekcpaaDoor.lx
