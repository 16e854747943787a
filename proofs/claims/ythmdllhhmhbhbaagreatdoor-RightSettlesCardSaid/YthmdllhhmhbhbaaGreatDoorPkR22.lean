import Derived.Test.YthmdllhhmhbhbaaGreatDoorPkR13
import Derived.Test.YthmdllhhmhbhbaaGreatDoorPkR17
import Derived.Test.YthmdllhhmhbhbaaGreatDoorPkR20
import Derived.Test.YthmdllhhmhbhbaaGreatDoorPkR21
import Derived.Test.YthmdllhhmhbhbaaGreatDoorRows
import Derived.LaidMore
import Derived.LaidSub
import Derived.Lib.LaidTab
import Derived.Test.YthmdllhhmhbhbaaGreatDoorChecked
import Derived.Test.YthmdllhhmhbhbaaGreatDoorPkR14
import Derived.Test.YthmdllhhmhbhbaaGreatDoorPkR4
set_option maxRecDepth 100000
set_option maxHeartbeats 4000000
section
namespace Go.Proofs.YthmdllhhmhbhbaaGreatDoor.am
open Go.ChangeShapes Go.WideShapes Go.ChangeAt Go.RowKit
open vt
set_option linter.unusedVariables false
set_option linter.unusedSimpArgs false
def rdV : VT := .mk ⟨32, 0, ⟨#[]⟩, 0, 11⟩ [tyV]
def rsV : VT := .mk ⟨36, 0, ⟨#[]⟩, 0, 11⟩ [rdV]
def sdV : VT := .mk ⟨32, 0, ⟨#[]⟩, 0, 0⟩ [.mk ⟨1, 0, ⟨#[]⟩, 0, 0⟩ []]
def stV : VT := .mk ⟨36, 0, ⟨#[]⟩, 0, 0⟩ [sdV]
theorem awk16 : b5a ⟨36, 0, ⟨#[]⟩, 0, 11⟩ [dcV] = ⟨rsV, 0, 0⟩ := by
  have h1 : ∀ ml L, n8 ml (.mk ⟨1, 0, ⟨#[]⟩, 7, 10⟩ []) L = ⟨.mk ⟨1, 0, ⟨#[]⟩, 7, 10⟩ [], 0, 0⟩ := fun ml L => by
    rw [a3j, if_neg (by decide), if_neg (by simp [b4c]), a5r]
    simp [a1k]
  simp [rsV, rdV, dcV, tyV, b5a, a50, a6u, a01, a1m, Tr.lab, a3j, b4c, a5r, h1, a1k, a2d, a5a, b7q]
theorem cel16 (m : VT) : a1j m tyV = 1 := by
  unfold a1j
  obtain ⟨f, hf⟩ : ∃ f, m.kids.length * m.size + tyV.size = f + 1 := ⟨m.kids.length * m.size + tyV.size - 1, by have := Tr.size_pos tyV; omega⟩
  rw [hf, a4o, if_pos (.inl rfl), if_pos (show (Tr.kids tyV).length = 0 from rfl)]
theorem md16 : a3w rsV = (stV, 0, 0) := by
  have hc : a1j rsV tyV = 1 := cel16 _
  have hn : i7 rdV = sdV := by simp [rdV, sdV, tyV, n9]
  have hd : a1d rsV 0 rdV ⟨[], 0, 0⟩ = (sdV, ⟨[], 0, 0⟩) := by
    unfold a1d
    rw [hn]
    simp [rdV, Tr.lab, Tr.kids, a8l, hc]
  have hb : a2v rsV = ⟨[], 0, 0⟩ := by unfold a2v; rw [if_pos (show (Tr.lab rsV).k = 36 from rfl)]
  have hs : m9 rsV 0 rsV.kids (a2v rsV) = ([sdV], ⟨[], 0, 0⟩) := by
    rw [hb, show rsV.kids = [rdV] from rfl]
    unfold m9
    rw [if_pos rfl, hd]
    rfl
  unfold a3w
  rw [hs, if_pos rfl]
  rfl
theorem in16 : p6 rsV := by
  refine (Tr.all_mk _ _ _).2 ⟨⟨by decide, by decide, by decide, by decide⟩, fun y hy => ?_⟩
  simp at hy; subst hy
  refine (Tr.all_mk _ _ _).2 ⟨⟨by decide, by decide, by decide, by decide⟩, fun y hy => ?_⟩
  simp at hy; subst hy
  exact (Tr.all_mk _ _ _).2 ⟨⟨by decide, by decide, by decide, by decide⟩, fun y hy => by simp at hy⟩
theorem sz16 : rsV.size = 3 := by simp [rsV, rdV, tyV, Tr.size_mk]
theorem rg16 : Row Tryz.prog 8 [vT stV] [] (vB true) [] := by
  have hfi := a9y in16 (by rw [sz16]; decide)
  obtain ⟨e1, e2⟩ := a38 (m := rsV) (by rw [md16])
  rw [md16] at hfi e1 e2
  dsimp only at hfi e1 e2
  have h2 := hfi.2
  rw [sz16] at h2
  have hri := a6z stV hfi.1 (by omega) (by rw [e1]; dsimp only; omega)
  have hrg : rgtP stV = true := by
    unfold rgtP
    rw [e1, a5p, ← e2, b33]
    rfl
  rw [hrg] at hri
  exact hri
noncomputable abbrev vRV (a b : VT) : AV := .tup [.agg (ta a), .agg (ta b), .c (.pv (I 0)), .c (.pv (I 0))]
section
variable {LL : List (Nat × Array Value)} (hLL : LibL LL)
include hLL
theorem b48 : Row Tryz.prog 17 [vS sV] [.lib LL] (vRV (c08 sV [dcV]) stV) [some (.lib LL)] := by
  have hp := b45 LL (b5h LL hLL sV (by decide))
  have hs := c1r ⟨36, 0, ⟨#[]⟩, 0, 11⟩ [dcV] (by simp) (fun d hd => by
    simp at hd
    subst hd
    refine c1m _ (by simp) _ ?_ (by simp [kndD, Tr.lab, dcV]) (by simp [Tr.size_mk, dcV, tyV])
    unfold scpD
    rw [if_neg (by simp [Tr.lab, dcV]), if_neg (by simp [Tr.lab, dcV])]
    exact (a5q _ _).2 ⟨fun h => by simp at h, fun h => by simp at h, fun y hy => by simp at hy; subst hy; exact (a5q _ _).2 ⟨fun h => by simp at h, fun h => by simp at h, fun y hy => by simp at hy⟩⟩)
  rw [awk16] at hs
  have hm := a2i rsV in16 (by rw [sz16]; decide)
  rw [md16] at hm
  rw [show c08 sV [dcV] = .mk ⟨36, 0, ⟨#[]⟩, 0, 11⟩ [dcV] from rfl] at hp ⊢
  dsimp only at hs hm
  unfold rsV at hs hm
  unfold stV at hm ⊢
  generalize dcV = d at *
  generalize rdV = r at *
  generalize sdV = t at *
  generalize sV = s at *
  refine e8 Tryz.func17 rfl rfl (Nat.le_of_ble_eq_true rfl) ?_
  repeat' (first | refine d7 ?_ | refine b9 ?_ | refine a8 ?_ | refine b8 ?_ | refine f7 rfl ?_ | refine f6 rfl ?_ | ((first | refine d6 (fun K hK => ?_) | refine d8 f8 (fun K hK => ?_) | refine b7 (cb hp 0 ?_) | refine a6 (db hp 0 ?_) | refine b7 (cp hs ?_) | refine a6 (dp hs ?_) | refine b7 (cp hm ?_) | refine a6 (dp hm ?_) | fail); simp -implicitDefEqProofs) | refine hK _ ?_ | refine hK _ _ (by rfl) ?_ | fail)
  refine e7 (i8 ?_); simp -implicitDefEqProofs [x7, g7, g9] <;> try rfl
theorem awake16_row : Row Tryz.prog 6 [] [.lib LL] (vB true) [some (.lib LL)] := by
  have hr := b48 hLL
  have hg := rg16
  rw [show c08 sV [dcV] = .mk ⟨36, 0, ⟨#[]⟩, 0, 11⟩ [dcV] from rfl] at hr
  unfold stV at hr hg
  unfold dcV sdV at hr
  unfold sdV at hg
  generalize tyV = ty at *
  refine e8 Tryz.func6 rfl rfl (Nat.le_of_ble_eq_true rfl) ?_
  repeat' (first | refine d7 ?_ | refine b9 ?_ | refine a8 ?_ | refine b8 ?_ | refine f7 rfl ?_ | refine f6 rfl ?_ | ((first | refine d6 (fun K hK => ?_) | refine d8 f8 (fun K hK => ?_) | refine b7 (cb hr 0 ?_) | refine a6 (db hr 0 ?_) | refine b7 (cp hg ?_) | refine a6 (dp hg ?_) | fail); simp -implicitDefEqProofs) | refine hK _ ?_ | refine hK _ _ (by rfl) ?_ | fail)
  refine e7 (i8 ?_); simp -implicitDefEqProofs [x7, g7, g9] <;> try rfl
end
end Go.Proofs.YthmdllhhmhbhbaaGreatDoor.am
end
section
namespace Go.Proofs.YthmdllhhmhbhbaaGreatDoor.lx
open Go.ChangeShapes Go.WideShapes Go.ChangeAt Go.RowKit
open bs
set_option linter.unusedVariables false
theorem b88 {H : Type} {enc : TypeId × Value → H} {P : Program} {w : World} {base : Nat} {sp : Nat → Bool} {held : Bool} {fuel : Nat} {t : TypeId} {ms : Array (String × TypeId)} {cs : List Value} {n : String} {d : DataW H} {p : List MemPlace}
    (ht : P.underlying t = some (.interface ms)) (h : DataW.trod enc P w base sp held fuel t cs = some (.iface n d, p)) : ∃ u v, cs = [.iface u v] := by
  cases fuel with
  | zero => simp [DataW.trod] at h
  | succ fuel =>
    simp only [DataW.trod, ht] at h
    split at h <;> first | exact ⟨_, _, rfl⟩ | (simp at *; done)
theorem gl_of_laid {W : World} (h : laidMetH Tryz.prog Rows.rightSettlesRow.laid W) : Gl W := by
  rw [MakeChecks.laidMetH_plain _ _ _ (by kernel_rfl)] at h
  obtain ⟨ps, hl, _, _⟩ := h
  obtain ⟨g0, t0, cs0, f0, p0, q0, hg0, ht0, hv0, hd0, hl, _⟩ := hl
  obtain ⟨g1, t1, cs1, f1, p1, q1, hg1, ht1, hv1, hd1, hl, _⟩ := hl
  obtain ⟨g2, t2, cs2, f2, p2, q2, hg2, ht2, hv2, hd2, hl, _⟩ := hl
  obtain ⟨g3, t3, cs3, f3, p3, q3, hg3, ht3, hv3, hd3, hl, _⟩ := hl
  obtain ⟨g4, t4, cs4, f4, p4, q4, hg4, ht4, hv4, hd4, hl, _⟩ := hl
  obtain rfl := Option.some.inj ((show Tryz.prog.globalNamed "internal/strconv.uint64pow10" = some 2 by kernel_rfl).symm.trans hg2)
  obtain rfl := Option.some.inj ((show (Tryz.prog.globals[2]?).map (·.type) = some 198 by kernel_rfl).symm.trans ht2)
  obtain rfl := Option.some.inj ((show Tryz.prog.globalNamed "strconv.ErrRange" = some 1 by kernel_rfl).symm.trans hg3)
  obtain rfl := Option.some.inj ((show (Tryz.prog.globals[1]?).map (·.type) = some 149 by kernel_rfl).symm.trans ht3)
  obtain rfl := Option.some.inj ((show Tryz.prog.globalNamed "strconv.ErrSyntax" = some 0 by kernel_rfl).symm.trans hg4)
  obtain rfl := Option.some.inj ((show (Tryz.prog.globals[0]?).map (·.type) = some 149 by kernel_rfl).symm.trans ht4)
  have hc2 := Lib.cells_of_tab (k := .u64) (zs := Lib.pow10Tab) Tryz.underlying198 Tryz.underlying172 (by kernel_rfl) (by kernel_rfl) hd2
  obtain ⟨u3, v3, hc3⟩ := b88 Tryz.underlying149 hd3
  obtain ⟨u4, v4, hc4⟩ := b88 Tryz.underlying149 hd4
  have e2 : cs2 = (Lib.pow10Tab.map fun z => Value.int .u64 z).toArray := by rw [← hc2]
  have e3 : cs3 = #[.iface u3 v3] := by rw [← Array.toList_inj]; exact hc3
  have e4 : cs4 = #[.iface u4 v4] := by rw [← Array.toList_inj]; exact hc4
  refine ⟨⟨u4, v4, by rw [hv4, e4]⟩, ⟨u3, v3, by rw [hv3, e3]⟩, by unfold Lib.TabIs; rw [hv2, e2]⟩
end Go.Proofs.YthmdllhhmhbhbaaGreatDoor.lx
end
section
namespace Go.Proofs.YthmdllhhmhbhbaaGreatDoor.am
open Go.ChangeShapes Go.WideShapes Go.ChangeAt Go.RowKit
open vt
set_option linter.unusedVariables false
set_option linter.unusedSimpArgs false
set_option maxRecDepth 100000
theorem wf64 {z : Int} (h : (Lit.int .i64 z).wf = true) : -9223372036854775808 ≤ z ∧ z ≤ 9223372036854775807 := by
  simpa [Lit.wf, IntKind.min, IntKind.max, IntKind.signed, IntKind.bits] using h
theorem c_int : Tryz.prog.cellsOf 3 = 1 := by kernel_rfl
theorem c4a : Tryz.prog.cellsOf 2 = 1 := by kernel_rfl
theorem c0m : Tryz.prog.cellsOf 9 = 1 := by kernel_rfl
theorem c4b : Tryz.prog.cellsOf 22 = 1 := by kernel_rfl
theorem c2j : Tryz.prog.cellsOf 24 = 6 := by kernel_rfl
theorem b9a {n : Nat} {ps : List PV} (h : Ty Tryz.prog n 3 ps) : ∃ z, ps = [I z] ∧ -9223372036854775808 ≤ z ∧ z ≤ 9223372036854775807 := by
  cases n with
  | zero => exact h.elim
  | succ n => unfold Ty at h; rw [Tryz.underlying3] at h; obtain ⟨z, h1, h2⟩ := h; exact ⟨z, h1, wf64 h2⟩
theorem c19 {n : Nat} {ps : List PV} (h : Ty Tryz.prog n 2 ps) : ∃ z, ps = [I z] ∧ -9223372036854775808 ≤ z ∧ z ≤ 9223372036854775807 := by
  cases n with
  | zero => exact h.elim
  | succ n => unfold Ty at h; rw [Tryz.underlying2] at h; obtain ⟨z, h1, h2⟩ := h; exact ⟨z, h1, wf64 h2⟩
theorem b9b {n : Nat} {ps : List PV} (h : Ty Tryz.prog n 9 ps) : ∃ s, ps = [Sx s] ∧ s.size ≤ maxLen := by
  cases n with
  | zero => exact h.elim
  | succ n => unfold Ty at h; rw [Tryz.underlying9] at h; exact h
theorem c52 : ∀ (n : Nat) (ps : List PV), Ty Tryz.prog n 24 ps → ∃ t : VT, ps = tc t ∧ p6 t := by
  intro n
  induction n using Nat.strongRecOn with
  | ind n ih =>
  intro ps h
  cases n with
  | zero => exact h.elim
  | succ n =>
    unfold Ty at h
    rw [Tryz.underlying24] at h
    obtain ⟨hl, hf⟩ := h
    simp only [List.mem_cons, List.not_mem_nil, or_false, forall_eq_or_imp, forall_eq, c_int, c4a, c0m, c4b] at hf
    rw [c2j] at hl
    match ps, hl with
    | [p0, p1, p2, p3, p4, p5], _ =>
      obtain ⟨f0, f1, f2, f3, f4, f5⟩ := hf
      obtain ⟨z0, e0, w0⟩ := b9a f0
      obtain ⟨z1, e1, w1⟩ := c19 f1
      obtain ⟨s2, e2, w2⟩ := b9b f2
      obtain ⟨z4, e4, w4⟩ := b9a f4
      obtain ⟨z5, e5, w5⟩ := b9a f5
      simp at e0 e1 e2 e4 e5
      subst e0 e1 e2 e4 e5
      cases n with
      | zero => exact f3.elim
      | succ n =>
        unfold Ty at f3
        rw [Tryz.underlying22] at f3
        obtain ⟨l, e3, _, hl⟩ := f3
        rw [c2j] at e3
        simp at e3
        subst e3
        obtain ⟨L, hL, hq⟩ := bs.choose_list l.length (fun i (x : VT) => l[i]? = some (tc x) ∧ p6 x) (fun i hi => by
          obtain ⟨x, h1, h2⟩ := ih n (by omega) (l[i]'hi) (hl _ (List.getElem_mem hi))
          exact ⟨x, by rw [List.getElem?_eq_getElem hi, h1], h2⟩)
        have hlm : l = L.map tc := by
          apply List.ext_getElem?
          intro i
          rw [List.getElem?_map]
          by_cases hi : i < L.length
          · have := hq i _ (List.getElem?_eq_getElem hi)
            rw [this.1, List.getElem?_eq_getElem hi]; rfl
          · rw [List.getElem?_eq_none (by omega), List.getElem?_eq_none (by omega)]; rfl
        refine ⟨.mk ⟨z0, z1, s2, z4, z5⟩ L, by rw [b80, hlm], (Tr.all_mk _ _ _).2 ⟨⟨w0, w1, w4, w5⟩, fun y hy => ?_⟩⟩
        obtain ⟨i, hi⟩ := List.mem_iff_getElem?.1 hy
        exact (hq i y hi).2
def clT : List TypeId := [3, 2, 9, 22, 24]
theorem clT_ok : clT.all (okTy Tryz.prog clT) = true := by kernel_rfl
theorem open_vterm {H : Type} {enc : TypeId × Value → H} {w : World} {r : Reach} {b0 : Nat} {v : Value} {d : DataW H} {p : List MemPlace}
    (hv : Value.okWide Tryz.prog w r b0 24 v) (h : DataW.Trod enc Tryz.prog w 0 (fun _ => true) true 24 v d p) : ∃ t : VT, l8 (fun _ => .un) (b43 w) w v (vT t) ∧ p6 t := by
  obtain ⟨cs, rfl, hsz⟩ := okWide_struct Tryz.underlying24 hv
  obtain ⟨n, ps, h1, h2⟩ := c1c clT_ok (by decide) h
  obtain ⟨t, rfl, h3⟩ := c52 n ps h2
  exact ⟨t, h1, h3⟩
end Go.Proofs.YthmdllhhmhbhbaaGreatDoor.am
end
