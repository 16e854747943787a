import Derived.Test.YtbbkmijkllgfaaaGreatDoorPkL11
import Derived.Test.YtbbkmijkllgfaaaGreatDoorPkL18
import Derived.Test.YtbbkmijkllgfaaaGreatDoorPkL21
import Derived.Test.YtbbkmijkllgfaaaGreatDoorPkL22
import Derived.Test.YtbbkmijkllgfaaaGreatDoorRows
import Derived.LaidMore
import Derived.LaidSub
import Derived.Lib.LaidTab
import Derived.Test.YtbbkmijkllgfaaaGreatDoorChecked
import Derived.Test.YtbbkmijkllgfaaaGreatDoorPkL17
import Derived.Test.YtbbkmijkllgfaaaGreatDoorPkL4
set_option maxRecDepth 100000
set_option maxHeartbeats 4000000
section
namespace Go.Proofs.YtbbkmijkllgfaaaGreatDoor.am
open Go.ChangeShapes Go.WideShapes Go.ChangeAt Go.RowKit
open vt
set_option linter.unusedVariables false
set_option linter.unusedSimpArgs false
def rdV : VT := .mk ⟨32, 0, ⟨#[]⟩, 0, 11⟩ [tyV]
def rsV : VT := .mk ⟨36, 0, ⟨#[]⟩, 0, 11⟩ [rdV]
def sdV : VT := .mk ⟨32, 0, ⟨#[]⟩, 0, 0⟩ [.mk ⟨1, 0, ⟨#[]⟩, 0, 0⟩ []]
def stV : VT := .mk ⟨36, 0, ⟨#[]⟩, 0, 0⟩ [sdV]
theorem awk16 : b46 ⟨36, 0, ⟨#[]⟩, 0, 11⟩ [dcV] = ⟨rsV, 0, 0⟩ := by
  have h1 : ∀ ml L, r8 ml (.mk ⟨1, 0, ⟨#[]⟩, 7, 10⟩ []) L = ⟨.mk ⟨1, 0, ⟨#[]⟩, 7, 10⟩ [], 0, 0⟩ := fun ml L => by
    rw [a35, if_neg (by decide), if_neg (by simp [c61]), b56]
    simp [c1x]
  simp [rsV, rdV, dcV, tyV, b46, a5f, b2z, a0f, a0y, Tr.lab, a35, c61, b56, h1, c1x, b0a, b4s, knxS]
theorem cel16 (m : VT) : a62 m tyV = 1 := by
  unfold a62
  obtain ⟨f, hf⟩ : ∃ f, m.kids.length * m.size + tyV.size = f + 1 := ⟨m.kids.length * m.size + tyV.size - 1, by have := Tr.size_pos tyV; omega⟩
  rw [hf, a3q, if_pos (.inl rfl), if_pos (show (Tr.kids tyV).length = 0 from rfl)]
theorem md16 : c1q rsV = (stV, 0, 0) := by
  have hc : a62 rsV tyV = 1 := cel16 _
  have hn : l3 rdV = sdV := by simp [rdV, sdV, tyV, o8]
  have hd : b2h rsV 0 rdV ⟨[], 0, 0⟩ = (sdV, ⟨[], 0, 0⟩) := by
    unfold b2h
    rw [hn]
    simp [rdV, Tr.lab, Tr.kids, c6e, hc]
  have hb : a5k rsV = ⟨[], 0, 0⟩ := by unfold a5k; rw [if_pos (show (Tr.lab rsV).k = 36 from rfl)]
  have hs : p9 rsV 0 rsV.kids (a5k rsV) = ([sdV], ⟨[], 0, 0⟩) := by
    rw [hb, show rsV.kids = [rdV] from rfl]
    unfold p9
    rw [if_pos rfl, hd]
    rfl
  unfold c1q
  rw [hs, if_pos rfl]
  rfl
theorem in16 : m7 rsV := by
  refine (Tr.all_mk _ _ _).2 ⟨⟨by decide, by decide, by decide, by decide⟩, fun y hy => ?_⟩
  simp at hy; subst hy
  refine (Tr.all_mk _ _ _).2 ⟨⟨by decide, by decide, by decide, by decide⟩, fun y hy => ?_⟩
  simp at hy; subst hy
  exact (Tr.all_mk _ _ _).2 ⟨⟨by decide, by decide, by decide, by decide⟩, fun y hy => by simp at hy⟩
theorem sz16 : rsV.size = 3 := by simp [rsV, rdV, tyV, Tr.size_mk]
noncomputable abbrev vRV (a b : VT) : AV := .tup [.agg (ta a), .agg (ta b), .c (.pv (I 0)), .c (.pv (I 0))]
section
variable {LL : List (Nat × Array Value)} (hLL : LibL LL) (hm16 : Row Tryz.prog 28 [vT rsV] [] (vT3i (stV, 0, 0)) [])
include hLL hm16
theorem b8r : Row Tryz.prog 16 [vS sV] [.lib LL] (vRV (c1r sV [dcV]) stV) [some (.lib LL)] := by
  have hp := b4z LL (b5j LL hLL sV (by decide))
  have hs := c2l ⟨36, 0, ⟨#[]⟩, 0, 11⟩ [dcV] (by simp) (fun d hd => by
    simp at hd
    subst hd
    unfold dcV
    exact b84 _ _ _ rfl (fun y hy => by
      simp at hy
      subst hy
      unfold tyV
      exact b3p _ _ _ (.inl rfl) (fun z hz => by cases hz)) (by simp [Tr.size_mk, tyV]))
  rw [awk16] at hs
  have hm := hm16
  rw [show c1r sV [dcV] = .mk ⟨36, 0, ⟨#[]⟩, 0, 11⟩ [dcV] from rfl] at hp ⊢
  dsimp only at hs hm
  unfold rsV at hs hm
  unfold stV at hm ⊢
  generalize dcV = d at *
  generalize rdV = r at *
  generalize sdV = t at *
  generalize sV = s at *
  refine d7 Tryz.func16 rfl rfl (Nat.le_of_ble_eq_true rfl) ?_
  repeat' (first | refine b9 ?_ | refine b6 ?_ | refine a6 ?_ | refine b5 ?_ | refine e7 rfl ?_ | refine d9 rfl ?_ | ((first | refine b8 (fun K hK => ?_) | refine d3 e9 (fun K hK => ?_) | refine b7 (cb hp 0 ?_) | refine a8 (db hp 0 ?_) | refine b7 (cp hs ?_) | refine a8 (dp hs ?_) | refine b7 (cp hm ?_) | refine a8 (dp hm ?_) | fail); simp -implicitDefEqProofs) | refine hK _ ?_ | refine hK _ _ (by rfl) ?_ | fail)
  refine d6 (g7 ?_); simp -implicitDefEqProofs [s9, f6, f7] <;> try rfl
theorem b4f (hg : Row Tryz.prog 17 [vT stV] [] (vB true) []) : Row Tryz.prog 6 [] [.lib LL] (vB true) [some (.lib LL)] := by
  have hr := b8r hLL hm16
  clear hm16
  rw [show c1r sV [dcV] = .mk ⟨36, 0, ⟨#[]⟩, 0, 11⟩ [dcV] from rfl] at hr
  unfold stV at hr hg
  unfold dcV sdV at hr
  unfold sdV at hg
  generalize tyV = ty at *
  refine d7 Tryz.func6 rfl rfl (Nat.le_of_ble_eq_true rfl) ?_
  repeat' (first | refine b9 ?_ | refine b6 ?_ | refine a6 ?_ | refine b5 ?_ | refine e7 rfl ?_ | refine d9 rfl ?_ | ((first | refine b8 (fun K hK => ?_) | refine d3 e9 (fun K hK => ?_) | refine b7 (cb hr 0 ?_) | refine a8 (db hr 0 ?_) | refine b7 (cp hg ?_) | refine a8 (dp hg ?_) | fail); simp -implicitDefEqProofs) | refine hK _ ?_ | refine hK _ _ (by rfl) ?_ | fail)
  refine d6 (g7 ?_); simp -implicitDefEqProofs [s9, f6, f7] <;> try rfl
end
end Go.Proofs.YtbbkmijkllgfaaaGreatDoor.am
end
section
namespace Go.Proofs.YtbbkmijkllgfaaaGreatDoor.am
open Go.ChangeShapes Go.WideShapes Go.ChangeAt Go.RowKit
open vt
set_option linter.unusedVariables false
set_option linter.unusedSimpArgs false
theorem dec32 (m : VT) (hm : m7 m) (hms : m.size ≤ 100000) (h : ∀ t ∈ m.kids, ∃ x y, t = .mk x [y] ∧ x.k = 32) (ret : VT) (i : Nat) (hi : i ≤ 100000) (t : VT) (hk : t ∈ m.kids) (ht : m7 t) (hts : t.size ≤ 100000) (j : JS) (E : List VT) : ∃ ret' E', OkV j.lo E → StD m ret i t j E (b2h m i t j) ret' E' := by
  refine ⟨ret, E, fun hE => ?_⟩
  obtain ⟨x, ⟨yx, yl⟩, rfl, h32⟩ := h t hk
  have := c5k m ret hm hms i hi x yx yl ht hts h32 j E hE
  unfold b2h
  rw [show (Tr.mk x [Tr.mk yx yl]).lab = x from rfl, show (Tr.mk x [Tr.mk yx yl]).kids = [.mk yx yl] from rfl]
  rw [if_neg (by omega), if_neg (by omega), if_neg (by omega), if_pos h32, if_neg (by simp), List.getD_cons_zero]
  exact this
theorem b4p (m : VT) (hms : m.size ≤ 100000) (he : c1q m = (m, 0, 0)) (hu : b5l m = true) (h1 : Row Tryz.prog 28 [vT m] [] (vT3i (c1q m)) []) : Row Tryz.prog 17 [vT m] [] (vB true) [] := by
  have h2 := c1m m (by omega)
  have h3 := a49 m (by omega) m (by omega)
  rw [he] at h1
  rw [hu] at h2
  rw [a9q] at h3
  obtain ⟨mx, ml⟩ := m
  refine d7 Tryz.func17 rfl rfl (Nat.le_of_ble_eq_true rfl) ?_
  repeat' (first | refine b9 ?_ | refine b6 ?_ | refine a6 ?_ | refine b5 ?_ | refine e7 rfl ?_ | refine d9 rfl ?_ | ((first | refine b8 (fun K hK => ?_) | refine d3 e9 (fun K hK => ?_) | refine b7 (cp h1 ?_) | refine a8 (dp h1 ?_) | refine b7 (cp h2 ?_) | refine a8 (dp h2 ?_) | refine b7 (cp h3 ?_) | refine a8 (dp h3 ?_) | fail); simp -implicitDefEqProofs) | refine hK _ ?_ | refine hK _ _ (by rfl) ?_ | fail)
  refine d6 (d4 ?_); simp -implicitDefEqProofs [f9, f6, f7] <;> try rfl
theorem cel16b (m : VT) : a62 m (.mk ⟨1, 0, ⟨#[]⟩, 0, 0⟩ []) = 1 := by
  unfold a62
  obtain ⟨f, hf⟩ : ∃ f, m.kids.length * m.size + (Tr.mk (⟨1, 0, ⟨#[]⟩, 0, 0⟩ : Lab) []).size = f + 1 := ⟨m.kids.length * m.size + (Tr.mk (⟨1, 0, ⟨#[]⟩, 0, 0⟩ : Lab) []).size - 1, by have := Tr.size_pos (Tr.mk (⟨1, 0, ⟨#[]⟩, 0, 0⟩ : Lab) []); omega⟩
  rw [hf, a3q, if_pos (.inl rfl), if_pos (show (Tr.kids (Tr.mk (⟨1, 0, ⟨#[]⟩, 0, 0⟩ : Lab) [])).length = 0 from rfl)]
theorem md16b : c1q stV = (stV, 0, 0) := by
  have hc : a62 stV (.mk ⟨1, 0, ⟨#[]⟩, 0, 0⟩ []) = 1 := cel16b _
  have hn : l3 sdV = sdV := by simp [sdV, o8]
  have hd : b2h stV 0 sdV ⟨[], 0, 0⟩ = (sdV, ⟨[], 0, 0⟩) := by
    unfold b2h
    rw [hn]
    simp [sdV, Tr.lab, Tr.kids, c6e, hc]
  have hb : a5k stV = ⟨[], 0, 0⟩ := by unfold a5k; rw [if_pos (show (Tr.lab stV).k = 36 from rfl)]
  have hs : p9 stV 0 stV.kids (a5k stV) = ([sdV], ⟨[], 0, 0⟩) := by
    rw [hb, show stV.kids = [sdV] from rfl]
    unfold p9
    rw [if_pos rfl, hd]
    rfl
  unfold c1q
  rw [hs, if_pos rfl]
  rfl
theorem in16b : m7 stV := by
  refine (Tr.all_mk _ _ _).2 ⟨⟨by decide, by decide, by decide, by decide⟩, fun y hy => ?_⟩
  simp at hy; subst hy
  refine (Tr.all_mk _ _ _).2 ⟨⟨by decide, by decide, by decide, by decide⟩, fun y hy => ?_⟩
  simp at hy; subst hy
  exact (Tr.all_mk _ _ _).2 ⟨⟨by decide, by decide, by decide, by decide⟩, fun y hy => by simp at hy⟩
theorem c6j : stV.size = 3 := by simp [stV, sdV, Tr.size_mk]
theorem rg16b : Row Tryz.prog 17 [vT stV] [] (vB true) [] := b4p stV (by rw [c6j]; decide) md16b (by simp [b9z, stV, sdV]) (a59 stV in16b (by rw [c6j]; decide) (dec32 stV in16b (by rw [c6j]; decide) (fun t ht => by
    have : t ∈ [sdV] := ht
    simp at this; subst this; exact ⟨_, _, rfl, rfl⟩)))
theorem awake16L_row {LL : List (Nat × Array Value)} (hLL : LibL LL) : Row Tryz.prog 6 [] [.lib LL] (vB true) [some (.lib LL)] := by
  have hm := a59 rsV in16 (by rw [sz16]; decide) (dec32 rsV in16 (by rw [sz16]; decide) (fun t ht => by
    have : t ∈ [rdV] := ht
    simp at this; subst this; exact ⟨_, _, rfl, rfl⟩))
  rw [md16] at hm
  exact b4f hLL hm rg16b
end Go.Proofs.YtbbkmijkllgfaaaGreatDoor.am
end
section
namespace Go.Proofs.YtbbkmijkllgfaaaGreatDoor.lx
open Go.ChangeShapes Go.WideShapes Go.ChangeAt Go.RowKit
open bs
set_option linter.unusedVariables false
theorem b9u {H : Type} {enc : TypeId × Value → H} {P : Program} {w : World} {base : Nat} {sp : Nat → Bool} {held : Bool} {fuel : Nat} {t : TypeId} {ms : Array (String × TypeId)} {cs : List Value} {n : String} {d : DataW H} {p : List MemPlace}
    (ht : P.underlying t = some (.interface ms)) (h : DataW.trod enc P w base sp held fuel t cs = some (.iface n d, p)) : ∃ u v, cs = [.iface u v] := by
  cases fuel with
  | zero => simp [DataW.trod] at h
  | succ fuel =>
    simp only [DataW.trod, ht] at h
    split at h <;> first | exact ⟨_, _, rfl⟩ | (simp at *; done)
theorem gl_of_laid {W : World} (h : laidMetH Tryz.prog Rows.rightLocalsRow.laid W) : Gl W := by
  rw [MakeChecks.laidMetH_plain _ _ _ (by kernel_rfl)] at h
  obtain ⟨ps, hl, _, _⟩ := h
  obtain ⟨g0, t0, cs0, f0, p0, q0, hg0, ht0, hv0, hd0, hl, _⟩ := hl
  obtain ⟨g1, t1, cs1, f1, p1, q1, hg1, ht1, hv1, hd1, hl, _⟩ := hl
  obtain ⟨g2, t2, cs2, f2, p2, q2, hg2, ht2, hv2, hd2, hl, _⟩ := hl
  obtain ⟨g3, t3, cs3, f3, p3, q3, hg3, ht3, hv3, hd3, hl, _⟩ := hl
  obtain ⟨g4, t4, cs4, f4, p4, q4, hg4, ht4, hv4, hd4, hl, _⟩ := hl
  obtain rfl := Option.some.inj ((show Tryz.prog.globalNamed "internal/strconv.uint64pow10" = some 2 by kernel_rfl).symm.trans hg2)
  obtain rfl := Option.some.inj ((show (Tryz.prog.globals[2]?).map (·.type) = some 198 by kernel_rfl).symm.trans ht2)
  obtain rfl := Option.some.inj ((show Tryz.prog.globalNamed "strconv.ErrRange" = some 1 by kernel_rfl).symm.trans hg3)
  obtain rfl := Option.some.inj ((show (Tryz.prog.globals[1]?).map (·.type) = some 143 by kernel_rfl).symm.trans ht3)
  obtain rfl := Option.some.inj ((show Tryz.prog.globalNamed "strconv.ErrSyntax" = some 0 by kernel_rfl).symm.trans hg4)
  obtain rfl := Option.some.inj ((show (Tryz.prog.globals[0]?).map (·.type) = some 143 by kernel_rfl).symm.trans ht4)
  have hc2 := Lib.cells_of_tab (k := .u64) (zs := Lib.pow10Tab) Tryz.underlying198 Tryz.underlying172 (by kernel_rfl) (by kernel_rfl) hd2
  obtain ⟨u3, v3, hc3⟩ := b9u Tryz.underlying143 hd3
  obtain ⟨u4, v4, hc4⟩ := b9u Tryz.underlying143 hd4
  have e2 : cs2 = (Lib.pow10Tab.map fun z => Value.int .u64 z).toArray := by rw [← hc2]
  have e3 : cs3 = #[.iface u3 v3] := by rw [← Array.toList_inj]; exact hc3
  have e4 : cs4 = #[.iface u4 v4] := by rw [← Array.toList_inj]; exact hc4
  refine ⟨⟨u4, v4, by rw [hv4, e4]⟩, ⟨u3, v3, by rw [hv3, e3]⟩, by unfold Lib.TabIs; rw [hv2, e2]⟩
end Go.Proofs.YtbbkmijkllgfaaaGreatDoor.lx
end
section
namespace Go.Proofs.YtbbkmijkllgfaaaGreatDoor.am
open Go.ChangeShapes Go.WideShapes Go.ChangeAt Go.RowKit
open vt
set_option linter.unusedVariables false
set_option linter.unusedSimpArgs false
set_option maxRecDepth 100000
theorem wf64 {z : Int} (h : (Lit.int .i64 z).wf = true) : -9223372036854775808 ≤ z ∧ z ≤ 9223372036854775807 := by
  simpa [Lit.wf, IntKind.min, IntKind.max, IntKind.signed, IntKind.bits] using h
theorem c_int : Tryz.prog.cellsOf 3 = 1 := by kernel_rfl
theorem c40 : Tryz.prog.cellsOf 2 = 1 := by kernel_rfl
theorem c1a : Tryz.prog.cellsOf 9 = 1 := by kernel_rfl
theorem c41 : Tryz.prog.cellsOf 22 = 1 := by kernel_rfl
theorem c3g : Tryz.prog.cellsOf 24 = 6 := by kernel_rfl
theorem b3w {n : Nat} {ps : List PV} (h : Ty Tryz.prog n 3 ps) : ∃ z, ps = [I z] ∧ -9223372036854775808 ≤ z ∧ z ≤ 9223372036854775807 := by
  cases n with
  | zero => exact h.elim
  | succ n => unfold Ty at h; rw [Tryz.underlying3] at h; obtain ⟨z, h1, h2⟩ := h; exact ⟨z, h1, wf64 h2⟩
theorem c2r {n : Nat} {ps : List PV} (h : Ty Tryz.prog n 2 ps) : ∃ z, ps = [I z] ∧ -9223372036854775808 ≤ z ∧ z ≤ 9223372036854775807 := by
  cases n with
  | zero => exact h.elim
  | succ n => unfold Ty at h; rw [Tryz.underlying2] at h; obtain ⟨z, h1, h2⟩ := h; exact ⟨z, h1, wf64 h2⟩
theorem b9w {n : Nat} {ps : List PV} (h : Ty Tryz.prog n 9 ps) : ∃ s, ps = [Sx s] ∧ s.size ≤ maxLen := by
  cases n with
  | zero => exact h.elim
  | succ n => unfold Ty at h; rw [Tryz.underlying9] at h; exact h
theorem c6w : ∀ (n : Nat) (ps : List PV), Ty Tryz.prog n 24 ps → ∃ t : VT, ps = tc t ∧ m7 t := by
  intro n
  induction n using Nat.strongRecOn with
  | ind n ih =>
  intro ps h
  cases n with
  | zero => exact h.elim
  | succ n =>
    unfold Ty at h
    rw [Tryz.underlying24] at h
    obtain ⟨hl, hf⟩ := h
    simp only [List.mem_cons, List.not_mem_nil, or_false, forall_eq_or_imp, forall_eq, c_int, c40, c1a, c41] at hf
    rw [c3g] at hl
    match ps, hl with
    | [p0, p1, p2, p3, p4, p5], _ =>
      obtain ⟨f0, f1, f2, f3, f4, f5⟩ := hf
      obtain ⟨z0, e0, w0⟩ := b3w f0
      obtain ⟨z1, e1, w1⟩ := c2r f1
      obtain ⟨s2, e2, w2⟩ := b9w f2
      obtain ⟨z4, e4, w4⟩ := b3w f4
      obtain ⟨z5, e5, w5⟩ := b3w f5
      simp at e0 e1 e2 e4 e5
      subst e0 e1 e2 e4 e5
      cases n with
      | zero => exact f3.elim
      | succ n =>
        unfold Ty at f3
        rw [Tryz.underlying22] at f3
        obtain ⟨l, e3, _, hl⟩ := f3
        rw [c3g] at e3
        simp at e3
        subst e3
        obtain ⟨L, hL, hq⟩ := bs.choose_list l.length (fun i (x : VT) => l[i]? = some (tc x) ∧ m7 x) (fun i hi => by
          obtain ⟨x, h1, h2⟩ := ih n (by omega) (l[i]'hi) (hl _ (List.getElem_mem hi))
          exact ⟨x, by rw [List.getElem?_eq_getElem hi, h1], h2⟩)
        have hlm : l = L.map tc := by
          apply List.ext_getElem?
          intro i
          rw [List.getElem?_map]
          by_cases hi : i < L.length
          · have := hq i _ (List.getElem?_eq_getElem hi)
            rw [this.1, List.getElem?_eq_getElem hi]; rfl
          · rw [List.getElem?_eq_none (by omega), List.getElem?_eq_none (by omega)]; rfl
        refine ⟨.mk ⟨z0, z1, s2, z4, z5⟩ L, by rw [b5i, hlm], (Tr.all_mk _ _ _).2 ⟨⟨w0, w1, w4, w5⟩, fun y hy => ?_⟩⟩
        obtain ⟨i, hi⟩ := List.mem_iff_getElem?.1 hy
        exact (hq i y hi).2
def clT : List TypeId := [3, 2, 9, 22, 24]
theorem clT_ok : clT.all (okTy Tryz.prog clT) = true := by kernel_rfl
theorem open_vterm {H : Type} {enc : TypeId × Value → H} {w : World} {r : Reach} {b0 : Nat} {v : Value} {d : DataW H} {p : List MemPlace}
    (hv : Value.okWide Tryz.prog w r b0 24 v) (h : DataW.Trod enc Tryz.prog w 0 (fun _ => true) true 24 v d p) : ∃ t : VT, j5 (fun _ => .un) (b1i w) w v (vT t) ∧ m7 t := by
  obtain ⟨cs, rfl, hsz⟩ := okWide_struct Tryz.underlying24 hv
  obtain ⟨n, ps, h1, h2⟩ := c1v clT_ok (by decide) h
  obtain ⟨t, rfl, h3⟩ := c6w n ps h2
  exact ⟨t, h1, h3⟩
theorem c6u (n : Nat) (ps : List PV) (h : Ty Tryz.prog n 3 ps) : ∃ z : Int, ps = (fun z : Int => [I z]) z ∧ (-9223372036854775808 ≤ z ∧ z ≤ 9223372036854775807) := by
  obtain ⟨z, h1, h2⟩ := b3w h
  exact ⟨z, h1, h2⟩
theorem c6v {n : Nat} {ps : List PV} (h : Ty Tryz.prog n 25 ps) : ∃ L : List Int, ps = [Is L] ∧ ok64 L := by
  obtain ⟨L, e, _, hq⟩ := c2s (f := fun z : Int => [I z]) (Q := fun z : Int => -9223372036854775808 ≤ z ∧ z ≤ 9223372036854775807) Tryz.underlying25 c6u h
  rw [c_int] at e
  exact ⟨L, e, hq⟩
def clI : List TypeId := [3, 25]
theorem clI_ok : clI.all (okTy Tryz.prog clI) = true := by kernel_rfl
theorem open_ints {H : Type} {enc : TypeId × Value → H} {w : World} {r : Reach} {b0 : Nat} {v : Value} {d : DataW H} {p : List MemPlace}
    (hv : Value.okWide Tryz.prog w r b0 25 v) (h : DataW.Trod enc Tryz.prog w 0 (fun _ => true) true 25 v d p) : ∃ L : List Int, j5 (fun _ => .un) (b1i w) w v (vIs L) ∧ ok64 L := by
  obtain ⟨a, m, c, rfl⟩ := okWide_slice Tryz.underlying25 hv
  obtain ⟨n, q, h1, h2⟩ := b8g clI_ok (by decide) rfl h
  obtain ⟨L, e, h3⟩ := c6v h2
  simp at e; subst e
  exact ⟨L, h1, h3⟩
end Go.Proofs.YtbbkmijkllgfaaaGreatDoor.am
end
