import Derived.Below
import Derived.Test.YtlkggpjdaaglmaaGreatDoorPkB12
import Derived.Test.YtlkggpjdaaglmaaGreatDoorPkB13
import Derived.Test.YtlkggpjdaaglmaaGreatDoorPkB14
import Derived.Lib.ItoaLen
import Derived.Test.YtlkggpjdaaglmaaGreatDoorPkB11
import Derived.Test.YtlkggpjdaaglmaaGreatDoorPkB4
section
namespace Go.Proofs.YtlkggpjdaaglmaaGreatDoor.am
open Go.ChangeShapes Go.WideShapes Go.ChangeAt Go.RowKit
set_option linter.unusedVariables false
set_option linter.unusedSectionVars false
section
variable {P : Program} {N nb : Nat} {st : St} {Q : Exit → St → Prop}
def St.nilb (st : St) (id : Nat) (t e : TypeId) : St := ⟨st.tm, (id, some (.bld t (.row st.nx 1 []))) :: (st.nx, some (.row e 1)) :: st.hp, st.nx + 1⟩
theorem aw_nilb {c : Code} (id : Nat) (t e : TypeId) (hid : hlk st.hp id = some (.bld t (.pv .nilS))) (hlt : id < st.nx) (h : AW P N nb c (st.nilb id t e) Q) : AW P N nb c st Q := by
  refine aw_cov (fun X hX a w hr => ?_) h
  obtain ⟨h1, h2, γ, S, hm, ha⟩ := hr
  have hG := GOn.upd_un (hm.un st.nx (Nat.le_refl _)) (.val (.slice none 0 0))
  refine ⟨h1, h2, upd γ st.nx (.val (.slice none 0 0)), S, ?_, fun s => (ha s).mono hG (fun _ _ h => h) (fun _ _ _ => rfl)⟩
  have m := hm.nilrow (nm := st.nx) (Nat.le_refl _) e 1
  show Mem X (hlk ((id, some (.bld t (.row st.nx 1 []))) :: (st.nx, some (.row e 1)) :: st.hp)) _ _ _ _
  rw [hlk_cons, hlk_cons]
  have hne : id ≠ st.nx := by omega
  have hid' : upd (hlk st.hp) st.nx (some (.row e 1)) id = some (.bld t (.pv .nilS)) := by rw [upd_ne _ _ hne]; exact hid
  refine { m with un := fun x hx => m.un x ⟨by have : st.nx + 1 ≤ x := hx
                                               omega, by have : st.nx + 1 ≤ x := hx
                                                         omega⟩, off := fun x hx => ?_, obj := fun x o hx => ?_ }
  · by_cases hxi : x = id
    · subst hxi; rw [upd_same] at hx; cases hx
    · rw [upd_ne _ _ hxi] at hx; exact m.off x hx
  · by_cases hxi : x = id
    · subst hxi
      rw [upd_same] at hx; cases hx
      obtain ⟨b, p, v, k1, k2, k3, k4, k5⟩ := m.obj x _ hid'
      exact ⟨b, p, v, k1, k2, k3, nil_row_rep (γ := upd γ st.nx (.val (.slice none 0 0))) k4 (upd_same _ _ _), k5⟩
    · rw [upd_ne _ _ hxi] at hx; exact m.obj x o hx
end
section
variable {X : Ctx} {H : Nat → Option AO} {U : Nat → Prop} {γ : Nat → G} {S : CS} {w : World}
theorem Mem.frzn (h : Mem X H U γ S w) {g : Nat} (hno : ∀ x, (γ x).bk ≠ some g) (hg : X.w0.heap.size ≤ g ∨ ∃ y, (X.γ0 y).bk = some g) {w' : World} (os : w'.os = w.os) (tape : w'.tape = w.tape) (out : w'.output = w.output) (size : w'.heap.size = w.heap.size)
    (hoth : ∀ k, k ≠ g → w'.heap[k]? = w.heap[k]?) (hcell : ∀ k, w'.cell? ⟨g, k, none⟩ = w.cell? ⟨g, k, none⟩) : Mem X H U γ S w' := by
  have hw : ∀ b k, S b k → w'.cell? ⟨b, k, none⟩ = w.cell? ⟨b, k, none⟩ := fun b k hs => by
    by_cases hb : b = g
    · rw [hb]; exact hcell k
    · exact World.cell?_of_block (hoth b hb)
  refine ⟨os.trans h.os, tape.trans h.tape, out.trans h.output, by rw [size]; exact h.size, fun b hb hx => ?_, fun b k hs => ⟨(h.keep b k hs).1, by rw [hw b k (h.keep b k hs).1]; exact (h.keep b k hs).2⟩, h.fresh, fun b k hs => by rw [size]; exact h.inb b k hs, h.mono, h.un, h.off, fun x o hx => ?_, h.dist, fun x b hb => by rw [size]; exact h.live x b hb⟩
  · rw [hoth b (fun e => ?_)]
    · exact h.frame b hb hx
    · subst e
      rcases hg with hg | ⟨y, hy⟩
      · omega
      · exact hx y hy
  · exact Obj'.on (h.obj x o hx) rfl (GOn.refl _) (fun _ _ h => h) hw (fun b hb => ⟨hoth b (fun e => hno x (e ▸ hb)), fun _ h => h⟩)
theorem Mem.more (h : Mem X H U γ S w) {w' : World} (hb : Below w.heap.size w w') : Mem X H U γ S w' := by
  have hw : ∀ b k, S b k → w'.cell? ⟨b, k, none⟩ = w.cell? ⟨b, k, none⟩ := fun b k hs => World.cell?_of_block (hb.block b (h.inb b k hs))
  refine ⟨hb.os.trans h.os, hb.tape.trans h.tape, hb.output.trans h.output, Nat.le_trans h.size hb.size, fun b hbb hx => ?_, fun b k hs => ⟨(h.keep b k hs).1, by rw [hw b k (h.keep b k hs).1]; exact (h.keep b k hs).2⟩, h.fresh, fun b k hs => Nat.lt_of_lt_of_le (h.inb b k hs) hb.size, h.mono, h.un, h.off, fun x o hx => ?_, h.dist, fun x b hbb => ⟨Nat.lt_of_lt_of_le (h.live x b hbb).1 hb.size, (h.live x b hbb).2⟩⟩
  · rw [hb.block b (Nat.lt_of_lt_of_le hbb h.size)]; exact h.frame b hbb hx
  · exact Obj'.on (h.obj x o hx) rfl (GOn.refl _) (fun _ _ h => h) hw (fun b hbb => ⟨hb.block b (h.live x b hbb).1, fun _ h => h⟩)
end
structure CopyK (P : Program) (f : Nat) (T : TypeId) : Prop where
  used : ∀ (b : Nat) (w : World), w.cell? ⟨b, 0, none⟩ = some (.pointer (some ⟨b, 0, none⟩)) → Calls P f #[.pointer (some ⟨b, 0, none⟩)] w fun e w' => e = .returned (.tuple #[]) ∧ w' = w
  fresh : ∀ (b : Nat) (w : World), w.cell? ⟨b, 0, none⟩ = some (.pointer none) → w.shape? b = some (T, 2) → w.frozen? ⟨b, 0, none⟩ = false → Calls P f #[.pointer (some ⟨b, 0, none⟩)] w fun e w' => e = .returned (.tuple #[]) ∧ w' = w.setCell ⟨b, 0, none⟩ (.pointer (some ⟨b, 0, none⟩))
theorem ptr_arg {γ : Nat → G} {S : CS} {w : World} {vs : List Value} {id : Nat} (h : RepVs γ S w vs [.v (.c (.ptr id 0))]) : ∃ b, vs = [.pointer (some ⟨b, 0, none⟩)] ∧ γ id = .blk b := by
  match vs, h with
  | [u], h =>
    obtain ⟨⟨b, k1, rfl⟩, _⟩ := h
    exact ⟨b, rfl, k1⟩
theorem copy_spec {P : Program} {f : Nat} {T : TypeId} (hk : CopyK P f T) (e : TypeId) (l : List (List PV)) : Spec P f [.v (.c (.ptr 0 0))] [.bld T (.row 1 1 l), .row e 1] (.tup []) [some (.bld T (.row 1 1 l)), some (.row e 1)] := fun γ S w vs hm hv => by
  obtain ⟨b, rfl, hb⟩ := ptr_arg hv
  obtain ⟨b', p, v, g1, g2, g3, g4, g5⟩ := hm.obj 0 _ rfl
  rw [g1] at hb; cases hb
  have e0 : (fun x : Nat => ([some (AO.bld T (.row 1 1 l)), some (.row e 1)][x]?).join) = fun x : Nat => [AO.bld T (.row 1 1 l), .row e 1][x]? := by
    funext x
    match x with
    | 0 => rfl
    | 1 => rfl
    | x + 2 => simp
  have hc0 : w.cell? ⟨b, 0, none⟩ = some p := by rw [cell_row g2]; rfl
  rcases g3 with rfl | rfl
  · refine (hk.fresh b w hc0 (by simp [World.shape?, g2]) (by simp [World.frozen?, g2])).mono ?_
    rintro e1 w' ⟨rfl, rfl⟩
    have hoth : ∀ k, k ≠ b → (w.setCell ⟨b, 0, none⟩ (.pointer (some ⟨b, 0, none⟩))).heap[k]? = w.heap[k]? := fun k hk => Below.heap_setCell _ _ _ _ hk
    have hw : ∀ b' k, S b' k → (w.setCell ⟨b, 0, none⟩ (.pointer (some ⟨b, 0, none⟩))).cell? ⟨b', k, none⟩ = w.cell? ⟨b', k, none⟩ := fun b' k hs => World.cell?_of_block (hoth b' (fun e => g5 k (e ▸ hs)))
    have m := hm.turn (id := 0) (b := b) (by rw [g1]; rfl) (w' := w.setCell ⟨b, 0, none⟩ (.pointer (some ⟨b, 0, none⟩))) rfl rfl rfl (by simp [World.setCell]) hoth g5 (.bld T (.row 1 1 l)) ⟨b, _, v, g1, by simp [World.setCell, Array.getElem?_modify, g2], .inr rfl, g4.mono (GOn.refl _) (fun _ _ h => h) hw, g5⟩
    refine ⟨_, γ, S, rfl, ?_, ⟨#[], rfl, rfl, fun i c h => by simp at h⟩⟩
    rw [e0]
    have e2 : upd (fun x : Nat => [AO.bld T (.row 1 1 l), .row e 1][x]?) 0 (some (.bld T (.row 1 1 l))) = fun x : Nat => [AO.bld T (.row 1 1 l), .row e 1][x]? := by
      funext x
      match x with
      | 0 => rfl
      | x + 1 => rfl
    rw [e2] at m
    exact m
  · refine (hk.used b w hc0).mono ?_
    rintro e1 w' ⟨rfl, rfl⟩
    refine ⟨_, γ, S, rfl, ?_, ⟨#[], rfl, rfl, fun i c h => by simp at h⟩⟩
    rw [e0]; exact hm
structure StrK (P : Program) (f : Nat) (T E : TypeId) : Prop where
  emp : ∀ (b : Nat) (p v : Value) (xs : List Value) (w : World), w.heap[b]? = some (.cells #[p, v] T (0, 0)) → w.ownsRow 0 E 1 v 0 xs → Calls P f #[.pointer (some ⟨b, 0, none⟩)] w fun e w' => e = .returned (.string .empty) ∧ Below w.heap.size w w'
  yes : ∀ (b g cap : Nat) (cur : Array Value) (p : Value) (t : TypeId) (s : ByteArray) (w : World), 0 < s.size → w.heap[b]? = some (.cells #[p, .slice (some ⟨g, 0, none⟩) s.size cap] t (0, 0)) → w.ownsRow 0 E 1 (.slice (some ⟨g, 0, none⟩) s.size cap) s.size (Lib.strCells s) →
    Calls P f #[.pointer (some ⟨b, 0, none⟩)] w fun e w' => e = .returned (.string s) ∧ w' = w.drew.freeze ⟨g, 0, none⟩ s.size
theorem freeze_size (w : World) (p : Addr) (n : Nat) : (w.freeze p n).heap.size = w.heap.size := by
  unfold World.freeze
  split <;> simp
theorem freeze_other (w : World) (g n k : Nat) (h : k ≠ g) : (w.freeze ⟨g, 0, none⟩ n).heap[k]? = w.heap[k]? := by
  unfold World.freeze
  split
  · rfl
  · simp only [Array.getElem?_modify]
    rw [if_neg (Ne.symm h)]
theorem freeze_cell (w : World) (g n k : Nat) : (w.freeze ⟨g, 0, none⟩ n).cell? ⟨g, k, none⟩ = w.cell? ⟨g, k, none⟩ := by
  unfold World.freeze
  split
  · rfl
  · simp only [World.cell?, Array.getElem?_modify, if_true]
    cases w.heap[g]? with
    | none => rfl
    | some o => cases o <;> rfl
theorem row_str {γ : Nat → G} {S : CS} {w : World} {x : Nat} {E : TypeId} {s : ByteArray} {v : Value} (h : Obj' γ S w x (.row E 1)) (hv : RepC γ S w v (.row x 1 (bL s))) : γ x = .val v ∧ w.ownsRow 0 E 1 v s.size (Lib.strCells s) := by
  obtain ⟨h1, h2⟩ := hv
  obtain ⟨v0, n, xs, g1, g2, g3⟩ := h
  have hvv : v = v0 := by
    rcases h2 with h2 | h2
    · rw [g1] at h2; cases h2
    · rw [g1] at h2; cases h2; rfl
  subst hvv
  obtain ⟨a, c, rfl, hs⟩ := sl_inv h1
  have hn : n = s.size := by
    rw [bL_len] at g2
    rcases g2.2 with ⟨k1, k2⟩ | ⟨g, cap, cur, k1, _⟩
    · injection k1 with _ k3 _; omega
    · injection k1 with _ k3 _; omega
  subst hn
  have hx : xs = Lib.strCells s := by
    apply List.ext_getElem?
    intro i
    by_cases hi : i < s.size
    · have hlt : i < (Lib.strCells s).length := by rw [Lib.strCells_length]; exact hi
      have hlx : i < xs.length := by rw [g2.1]; omega
      rw [List.getElem?_eq_getElem hlx, List.getElem?_eq_getElem hlt]
      congr 1
      rcases hs.at' with hz | ⟨b, off, hb, hes, hc⟩
      · have := bL_len s; rw [hz] at this; simp at this; omega
      · obtain ⟨_, u, k1, k2⟩ := hc i [.lit (Lib.strCells s)[i]] 0 (.lit (Lib.strCells s)[i]) (by unfold bL; rw [List.getElem?_map, List.getElem?_eq_getElem hlt]; rfl) rfl
        rcases g2.2 with ⟨k3, k4⟩ | ⟨g, cap, cur, k3, _⟩
        · omega
        · have hbb := hb
          injection k3 with q1 _ _
          rw [hb] at q1
          injection q1 with q1
          injection q1 with q1 q2 _
          subst q1 q2
          have := g2.cells (g := b) (by rw [hbb]; rfl) i xs[i] (List.getElem?_eq_getElem hlx)
          rw [addr_add] at this
          rw [show 0 + i * 1 + 0 = 0 + i by omega, this] at k1
          cases k1
          exact (lit_inv (γ := γ) (S := S) (w := w) k2).1
    · rw [List.getElem?_eq_none (by rw [g2.1]; omega), List.getElem?_eq_none (by rw [Lib.strCells_length]; omega)]
  subst hx
  exact ⟨g1, g2⟩
theorem string_spec {P : Program} {f : Nat} {T E : TypeId} (hk : StrK P f T E) (s : ByteArray) : Spec P f [.v (.c (.ptr 0 0))] [.bld T (.row 1 1 (bL s)), .row E 1] (.v (.c (.pv (.lit (.string s))))) [some (.bld T (.row 1 1 (bL s))), none] := fun γ S w vs hm hv => by
  obtain ⟨b, rfl, hb⟩ := ptr_arg hv
  obtain ⟨b', p, v, g1, g2, g3, g4, g5⟩ := hm.obj 0 _ rfl
  rw [g1] at hb; cases hb
  obtain ⟨k1, k2⟩ := row_str (hm.obj 1 _ rfl) g4
  have e0 : (fun x : Nat => ([some (AO.bld T (.row 1 1 (bL s))), none][x]?).join) = upd (fun x : Nat => [AO.bld T (.row 1 1 (bL s)), .row E 1][x]?) 1 none := by
    funext x
    match x with
    | 0 => rfl
    | 1 => rfl
    | x + 2 => simp [upd]
  have mk := hm.kill k1
  have hU : ∀ {w'}, Mem ⟨w, S, γ, []⟩ (upd (fun x : Nat => [AO.bld T (.row 1 1 (bL s)), .row E 1][x]?) 1 none) (fun x => [AO.bld T (.row 1 1 (bL s)), .row E 1].length ≤ x) (upd γ 1 .dead) S w' → ∃ v γ' S', Ending.returned (.string s) = .returned v ∧ Mem ⟨w, S, γ, []⟩ (fun x : Nat => ([some (AO.bld T (.row 1 1 (bL s))), none][x]?).join) (fun x => [some (AO.bld T (.row 1 1 (bL s))), none].length ≤ x) γ' S' w' ∧ RepV γ' S' w' v (.v (.c (.pv (.lit (.string s))))) := fun {w'} m => by
    refine ⟨.string s, upd γ 1 .dead, S, rfl, ?_, RepP.lit _ rfl⟩
    rw [e0]; exact m
  rcases Nat.eq_zero_or_pos s.size with h0 | h0
  · have hs : s = .empty := by
      apply ByteArray.ext
      exact Array.eq_empty_of_size_eq_zero h0
    rw [h0] at k2
    refine (hk.emp b p v _ w g2 k2).mono ?_
    rintro e1 w' ⟨rfl, hbl⟩
    rw [← hs]
    exact hU (mk.more hbl)
  · rcases k2.2 with ⟨k3, k4⟩ | ⟨g, cap, cur, k3, _⟩
    · omega
    · subst k3
      refine (hk.yes b g cap cur p T s w h0 g2 k2).mono ?_
      rintro e1 w' ⟨rfl, rfl⟩
      have hgb : (γ 1).bk = some g := by rw [k1]; rfl
      refine hU (mk.drew.frzn (g := g) (fun x hx => ?_) (hm.live 1 g hgb).2 (by unfold World.freeze; split <;> rfl) (by unfold World.freeze; split <;> rfl) (by unfold World.freeze; split <;> rfl) (freeze_size _ _ _) (fun k hk => freeze_other _ _ _ _ hk) (fun k => freeze_cell _ _ _ _))
      by_cases h1 : x = 1
      · subst h1; rw [upd_same] at hx; cases hx
      · rw [upd_ne _ _ h1] at hx; exact hm.dist x 1 h1 g hx hgb
end Go.Proofs.YtlkggpjdaaglmaaGreatDoor.am
end
section
namespace Go.Proofs.YtlkggpjdaaglmaaGreatDoor.am
open Go.Shelf Go.RowKit
variable {P : Program} {ρ : Ren}
set_option maxHeartbeats 1000000 in
set_option maxRecDepth 100000 in
theorem string_world (L : Lays.n169 P ρ) (X : Builder.Extra P ρ) {b g cap : Nat} {cur : Array Value} {p : Value} {t : TypeId} {s : ByteArray} {w : World} (h0 : 0 < s.size) (hbk : w.heap[b]? = some (.cells #[p, .slice (some ⟨g, 0, none⟩) s.size cap] t (0, 0))) (hown : w.ownsRow 0 (ρ.t 5) 1 (.slice (some ⟨g, 0, none⟩) s.size cap) s.size (Lib.strCells s)) :
    Calls P (ρ.f 169) #[.pointer (some ⟨b, 0, none⟩)] w fun e w' => e = .returned (.string s) ∧ w' = w.drew.freeze ⟨g, 0, none⟩ s.size := by
  have hx := hown.2
  rcases hx with ⟨k1, _⟩ | ⟨g', cap', cur, k1, _, k3, k4, k5, k6, k7⟩
  · cases k1
  cases k1
  have hl : s.data.toList ≠ [] := fun e => by
    have h1 : s.data.toList.length = 0 := by rw [e]; rfl
    rw [Array.length_toList] at h1
    have : s.data.size = s.size := rfl
    omega
  have hsl : s.data.toList.length = s.size := Array.length_toList
  have c1 : w.drew.cell? ⟨b, 1, none⟩ = some (.slice (some ⟨g, 0, none⟩) s.size cap) := cell_row (w := w.drew) hbk
  have hSD : (Builtin.unsafeSliceData_ #[(ρ.t 37)] (ρ.t 127) #[.slice (some ⟨g, 0, none⟩) s.size cap]).run P w.drew = .ok (.pointer (some ⟨g, 0, none⟩)) w.drew := Lib.run_unsafeSliceData_row _ _ _ _ _ _ (by omega)
  have hUS : (Builtin.unsafeString_ #[(ρ.t 127), (ρ.t 3)] (ρ.t 9) #[.pointer (some ⟨g, 0, none⟩), .int .i64 s.size]).run P w.drew = .ok (.string s) (w.drew.freeze ⟨g, 0, none⟩ s.size) := by
    have key := Lib.run_unsafeString_row w.drew (ρ.t 127) (ρ.t 3) (ρ.t 9) (ρ.t 5) L.t127 X.cellsByte g cur.size (by have hg : w.drew.heap[g]? = some (.cells cur (ρ.t 5) (0, 0)) := k3; simp [World.shape?, hg]) s.data.toList hl (by omega) (by unfold maxLen at k5; omega) (fun j x hj => hown.cells (g := g) rfl j (.int .u8 x.toNat) (by unfold Lib.strCells; rw [List.getElem?_map, hj]; rfl))
    rw [hsl] at key
    exact key
  have mixed := L.mixed
  have t72 := L.t72; have a72 := L.a72; have z72 := L.z72; have v72 := L.v72; have u72 := run_underlying L.t72
  have t70 := L.t70; have a70 := L.a70; have z70 := L.z70; have v70 := L.v70; have u70 := run_underlying L.t70
  have t37 := L.t37; have a37 := L.a37; have z37 := L.z37; have v37 := L.v37; have u37 := run_underlying L.t37
  have t127 := L.t127; have a127 := L.a127; have z127 := L.z127; have v127 := L.v127; have u127 := run_underlying L.t127
  have t3 := L.t3; have a3 := L.a3; have z3 := L.z3; have v3 := L.v3; have u3 := run_underlying L.t3
  have t9 := L.t9; have a9 := L.a9; have z9 := L.z9; have v9 := L.v9; have u9 := run_underlying L.t9
  have t5 := X.t5; have a5 := X.a5; have z5 := X.z5; have v5 := X.v5; have u5 := run_underlying X.t5
  clear k4 k5 k6 k7 hl h0
  go_enter L.f169, Body.n169_ntmps ρ
  go_wp2
  go_region_o
  all_goals (go_wp2; go_ret; exact ⟨rfl, rfl⟩)
end Go.Proofs.YtlkggpjdaaglmaaGreatDoor.am
namespace Go.Proofs.YtlkggpjdaaglmaaGreatDoor.am
open Go.ChangeShapes Go.WideShapes Go.ChangeAt Go.RowKit
set_option linter.unusedVariables false
set_option linter.unusedSimpArgs false
theorem td_bldr : td Tryz.prog 44 = some ⟨true, 2, 32, [.lit (.pointer none), .nilS], [(0, 1, false), (1, 1, false)], .struct⟩ := Eq.trans (by kernel_rfl) (Eq.refl _)
theorem td_bldrp : td Tryz.prog 41 = some ⟨false, 1, 8, [.lit (.pointer none)], [], (.pointer 44)⟩ := Eq.trans (by kernel_rfl) (Eq.refl _)
theorem td_u8s : td Tryz.prog 42 = some ⟨false, 1, 24, [.nilS], [], (.slice 5)⟩ := Eq.trans (by kernel_rfl) (Eq.refl _)
theorem td_bu8 : td Tryz.prog 5 = some ⟨false, 1, 1, [.lit (.int .u8 0)], [], (.int .u8)⟩ := Eq.trans (by kernel_rfl) (Eq.refl _)
attribute [simp] td_bldr td_bldrp td_u8s td_bu8
theorem copyK : CopyK Tryz.prog 39 44 where
  used := fun b w h => Any.Builder_copyCheck_used (ρ := Tryz.lays165_ren) { Tryz.lays165 with } Tryz.Builder_Extra_165.toX72 b w h
  fresh := fun b w h1 h2 h3 => Any.Builder_copyCheck_fresh (ρ := Tryz.lays165_ren) { Tryz.lays165 with } Tryz.Builder_Extra_165.toX72 b w h1 h2 h3
theorem strK : StrK Tryz.prog 19 44 5 where
  emp := fun b p v xs w hb ho => by
    rcases ho.2 with ⟨k1, _⟩ | ⟨g, cap, cur, k1, _, k3, k4, k5, k6, k7⟩
    · subst k1
      exact Any.Builder_String_nil Tryz.lays169 Tryz.Builder_Extra_169 w.heap.size b p w hb
    · subst k1
      by_cases h0 : cap = 0
      · subst h0
        exact Any.Builder_String_noroom Tryz.lays169 Tryz.Builder_Extra_169 w.heap.size b g p cur w (Nat.le_refl _) hb k3
      · exact Any.Builder_String_room Tryz.lays169 Tryz.Builder_Extra_169 w.heap.size b g cap p w h0 hb
  yes := fun b g cap cur p t s w h0 hb ho => string_world Tryz.lays169 Tryz.Builder_Extra_169 (cur := cur) h0 hb ho
set_option maxRecDepth 100000 in
set_option maxHeartbeats 4000000 in
theorem bcopy_row (l : List (List PV)) : Row Tryz.prog 39 [.v (.c (.ptr 0 0))] [.bld 44 (.row 1 1 l), .row 5 1] (.tup []) [some (.bld 44 (.row 1 1 l)), some (.row 5 1)] :=
  ⟨⟨_, Tryz.func39, rfl, rfl⟩, copy_spec copyK _ l⟩
abbrev bld (i : Nat) (s : ByteArray) : AO := .bld 44 (.row i 1 (bL s))
abbrev brw : AO := .row 5 1
set_option maxRecDepth 100000 in
set_option maxHeartbeats 4000000 in
theorem bstring_row (s : ByteArray) : Row Tryz.prog 19 [.v (.c (.ptr 0 0))] [bld 1 s, brw] (.v (.c (.pv (.lit (.string s))))) [some (bld 1 s), none] :=
  ⟨⟨_, Tryz.func19, rfl, rfl⟩, string_spec strK s⟩
set_option maxRecDepth 100000 in
set_option maxHeartbeats 4000000 in
theorem bwrite_row (a s : ByteArray) (h : a.size + s.size ≤ 140737488355328) : Row Tryz.prog 15 [.v (.c (.ptr 0 0)), .v (.c (.pv (.lit (.string s))))] [bld 1 a, brw] (.tup [.c (.pv (.lit (.int .i64 s.size))), .c (.pv (.lit .nilIface))]) [some (bld 2 (a ++ s)), none, some brw] := by
  have hl : (bL a).length + s.size ≤ 140737488355328 := by rw [bL_len]; exact h
  refine row_of Tryz.func15 rfl rfl (Nat.le_of_ble_eq_true rfl) ?_
  repeat' (first | refine aw_seq ?_ | refine aw_skip ?_ | refine aw_block ?_ | refine aw_exit ?_ | refine aw_ct rfl ?_ | refine aw_cf rfl ?_ | ((first | refine aw_reg (fun K hK => ?_) | refine aw_drw mixd (fun K hK => ?_) | refine ar_call (cg (bcopy_row (bL a)) [0,1] ?_) | refine ard_call (dg (bcopy_row (bL a)) [0,1] ?_) | fail); simp -implicitDefEqProofs [hl]) | refine hK _ ?_ | refine hK _ _ (by rfl) ?_ | fail)
  repeat (first | refine aw_seq ?_ | refine aw_skip ?_ | refine aw_block ?_ | refine aw_exit ?_ | refine aw_ct rfl ?_ | refine aw_cf rfl ?_ | ((first | refine aw_reg (fun K hK => ?_) | refine aw_drw mixd (fun K hK => ?_) | fail); simp -implicitDefEqProofs [hl]; first | refine hK _ ?_ | refine hK _ _ (by rfl) ?_ | fail) | fail)
  refine aw_ret (fin_g [0, 1, 19] ?_); simp -implicitDefEqProofs [FinG, resV, resT, bL_append] <;> try rfl
end Go.Proofs.YtlkggpjdaaglmaaGreatDoor.am
end
section
namespace Go.Proofs.YtlkggpjdaaglmaaGreatDoor.am
open Go.ChangeShapes Go.WideShapes Go.ChangeAt Go.RowKit
set_option linter.unusedVariables false
set_option linter.unusedSimpArgs false
theorem td_err : td Tryz.prog 46 = some ⟨false, 1, 16, [.lit .nilIface], [], .interface⟩ := Eq.trans (by kernel_rfl) (Eq.refl _)
attribute [simp] td_err
theorem bL_byte (c : UInt8) : bL ⟨#[c]⟩ = [[.lit (.int .u8 c.toNat)]] := rfl
set_option maxRecDepth 100000 in
set_option maxHeartbeats 4000000 in
theorem bbyte_row (a : ByteArray) (c : UInt8) (h : a.size + 1 ≤ 140737488355328) : Row Tryz.prog 18 [.v (.c (.ptr 0 0)), .v (.c (.pv (.lit (.int .u8 c.toNat))))] [bld 1 a, brw] (.v (.c (.pv (.lit .nilIface)))) [some (bld 2 (a ++ ⟨#[c]⟩)), none, some brw] := by
  have hl : (bL a).length + 1 ≤ 140737488355328 := by rw [bL_len]; exact h
  refine row_of Tryz.func18 rfl rfl (Nat.le_of_ble_eq_true rfl) ?_
  repeat' (first | refine aw_seq ?_ | refine aw_skip ?_ | refine aw_block ?_ | refine aw_exit ?_ | refine aw_ct rfl ?_ | refine aw_cf rfl ?_ | ((first | refine aw_reg (fun K hK => ?_) | refine aw_drw mixd (fun K hK => ?_) | refine ar_call (cg (bcopy_row (bL a)) [0,1] ?_) | refine ard_call (dg (bcopy_row (bL a)) [0,1] ?_) | fail); simp -implicitDefEqProofs [hl]) | refine hK _ ?_ | refine hK _ _ (by rfl) ?_ | fail)
  repeat (first | refine aw_seq ?_ | refine aw_skip ?_ | refine aw_block ?_ | refine aw_exit ?_ | refine aw_ct rfl ?_ | refine aw_cf rfl ?_ | ((first | refine aw_reg (fun K hK => ?_) | refine aw_drw mixd (fun K hK => ?_) | fail); simp -implicitDefEqProofs [hl]; first | refine hK _ ?_ | refine hK _ _ (by rfl) ?_ | fail) | fail)
  refine aw_ret (fin_g [0, 1, 19] ?_); simp -implicitDefEqProofs [FinG, resV, resT, bL_append, bL_byte] <;> try rfl
end Go.Proofs.YtlkggpjdaaglmaaGreatDoor.am
end
section
namespace Go.Proofs.YtlkggpjdaaglmaaGreatDoor.am
open Go.ChangeShapes Go.WideShapes Go.ChangeAt Go.RowKit
open vt
set_option linter.unusedVariables false
set_option linter.unusedSimpArgs false
def txt (Ws : List (List ByteArray)) : ByteArray := Ws.foldl (fun a W => a ++ (J W ++ ⟨#[10]⟩)) ⟨#[]⟩
theorem txt_snoc (Ws : List (List ByteArray)) (W : List ByteArray) : txt (Ws ++ [W]) = txt Ws ++ (J W ++ ⟨#[10]⟩) := by
  unfold txt; rw [List.foldl_append]; rfl
theorem txt_take {Ws : List (List ByteArray)} {k : Nat} {W : List ByteArray} (h : Ws[k]? = some W) : txt (Ws.take (k + 1)) = txt (Ws.take k) ++ (J W ++ ⟨#[10]⟩) := by
  rw [List.take_add_one, h]
  exact txt_snoc _ _
theorem txt_size {Ws : List (List ByteArray)} (h : ∀ W ∈ Ws, (J W).size ≤ 1000000000) : ∀ k, k ≤ Ws.length → (txt (Ws.take k)).size ≤ k * 1000000001
  | 0, _ => by rw [List.take_zero]; exact Nat.le_refl _
  | k + 1, hk => by
    have hW := List.getElem?_eq_getElem (l := Ws) (i := k) (by omega)
    rw [txt_take hW, ByteArray.size_append, ByteArray.size_append]
    have h1 := txt_size h k (by omega)
    have h2 := h _ (List.getElem_mem (l := Ws) (n := k) (by omega))
    have : (⟨#[10]⟩ : ByteArray).size = 1 := rfl
    omega
set_option maxRecDepth 100000 in
set_option maxHeartbeats 4000000 in
theorem ptext_row (LL : List (Nat × Array Value)) (hLL : LibN LL) (x : Lab) (l : List VT) (Ws : List (List ByteArray)) (hl : l.length = Ws.length) (hn : l.length ≤ 1000) (hw : ∀ (i : Nat) t W, l[i]? = some t → Ws[i]? = some W → WD t W ∧ 3 * W.length ≤ 1000000 ∧ (J W).size ≤ 1000000000) : Row Tryz.prog 7 [vT (.mk x l)] [.lib LL] (vS (txt Ws)) [some (.lib LL)] := by
  have hsz := txt_size (Ws := Ws) (fun W hW => by
    obtain ⟨i, hi⟩ := List.mem_iff_getElem?.1 hW
    have hlt := (List.getElem?_eq_some_iff.1 hi).1
    exact (hw i _ W (List.getElem?_eq_getElem (by omega)) hi).2.2)
  have h0 : txt [] = ⟨#[]⟩ := rfl
  have h1 : bL ⟨#[]⟩ = [] := rfl
  refine row_of Tryz.func7 rfl rfl (Nat.le_of_ble_eq_true rfl) ?_
  repeat (first | refine aw_seq ?_ | refine aw_skip ?_ | refine aw_block ?_ | refine aw_exit ?_ | refine aw_ct rfl ?_ | refine aw_cf rfl ?_ | ((first | refine aw_reg (fun K hK => ?_) | refine aw_drw mixd (fun K hK => ?_) | fail); simp -implicitDefEqProofs; first | refine hK _ ?_ | refine hK _ _ (by rfl) ?_ | fail) | fail)
  refine aw_nilb 3 44 5 rfl (by simp) ?_
  simp [St.nilb]
  refine aw_lp (ι := Nat) (fun k => mkSt [(3, .v (.c (.ptr 1 0))), (7, vLs l), (8, vI (l.length : Nat)), (9, vI (k : Nat))] [some (.lib LL), some (bld 2 (txt (Ws.take k))), some brw]) (fun k => k ≤ l.length) (fun k => l.length - k) 0 (Nat.zero_le _) (cov_intro [0, 3, 8] (by simp -implicitDefEqProofs [h0, h1]) (by simp -implicitDefEqProofs [h0, h1]) (by decide) rfl (by simp)) (fun Z hI k hk => ?_)
  by_cases hkl : k < l.length; rotate_left
  · have hke : k = Ws.length := by omega
    subst hke
    have v3 := bstring_row (txt Ws)
    have hlt : ¬ Ws.length < l.length := by omega
    rw [List.take_length]
    repeat' (first | refine aw_seq ?_ | refine aw_skip ?_ | refine aw_block ?_ | refine aw_exit ?_ | refine aw_ct rfl ?_ | refine aw_cf rfl ?_ | ((first | refine aw_reg (fun K hK => ?_) | refine aw_drw mixd (fun K hK => ?_) | refine ar_call (cg v3 [1,2] ?_) | refine ard_call (dg v3 [1,2] ?_) | fail); simp -implicitDefEqProofs [hlt]) | refine hK _ ?_ | refine hK _ _ (by rfl) ?_ | fail)
    refine aw_ret (fin_box ?_); simp -implicitDefEqProofs [FinB, resV, resT] <;> try rfl
  obtain ⟨⟨ux, ul⟩, hu⟩ : ∃ a, l[k]? = some a := ⟨_, List.getElem?_eq_getElem hkl⟩
  have hu' := (List.getElem?_eq_some_iff.1 hu).2
  obtain ⟨W, hW⟩ : ∃ a, Ws[k]? = some a := ⟨_, List.getElem?_eq_getElem (by omega)⟩
  obtain ⟨g1, g2, g3⟩ := hw k _ W hu hW
  have tr := text_row LL hLL g1 g2 g3
  have hz := hsz k (by omega)
  have e3 := txt_take hW
  have w2 : IntKind.i64.wrap ((k : Nat) + 1 : Int) = (k : Nat) + 1 := i64i _ (by omega) (by omega)
  obtain ⟨T1, hT⟩ : ∃ T, txt (Ws.take (k + 1)) = T := ⟨_, rfl⟩
  rw [hT] at e3
  have v1 := bwrite_row (txt (Ws.take k)) (J W) (by omega)
  have v2 : Row Tryz.prog 18 [.v (.c (.ptr 0 0)), .v (.c (.pv (.lit (.int .u8 10))))] [bld 1 (txt (Ws.take k) ++ J W), brw] (.v (.c (.pv (.lit .nilIface)))) [some (bld 2 (txt (Ws.take k) ++ J W ++ ⟨#[10]⟩)), none, some brw] := bbyte_row (txt (Ws.take k) ++ J W) 10 (by rw [ByteArray.size_append]; omega)
  rw [ByteArray.append_assoc, ← e3] at v2
  repeat' (first | refine aw_seq ?_ | refine aw_skip ?_ | refine aw_block ?_ | refine aw_exit ?_ | refine aw_ct rfl ?_ | refine aw_cf rfl ?_ | ((first | refine aw_reg (fun K hK => ?_) | refine aw_drw mixd (fun K hK => ?_) | refine ar_call (cb tr 0 ?_) | refine ard_call (db tr 0 ?_) | refine ar_call (cg v1 [1,2] ?_) | refine ard_call (dg v1 [1,2] ?_) | refine ar_call (cg v2 [1,17] ?_) | refine ard_call (dg v2 [1,17] ?_) | fail); simp -implicitDefEqProofs [hkl, hu, hu', w2]) | refine hK _ ?_ | refine hK _ _ (by rfl) ?_ | fail)
  refine ⟨k + 1, by omega, (by dsimp only; omega), ?_⟩; rw [hI]; exact cov_intro [0, 1, 25] (by simp -implicitDefEqProofs [hT]) (by simp -implicitDefEqProofs [hT]) (by decide) rfl (by simp)
end Go.Proofs.YtlkggpjdaaglmaaGreatDoor.am
end
section
namespace Go.Proofs.YtlkggpjdaaglmaaGreatDoor.am
open vt
set_option linter.unusedVariables false
section
variable {ts : List Tok}
end
end Go.Proofs.YtlkggpjdaaglmaaGreatDoor.am
end
section
namespace Go.Proofs.YtlkggpjdaaglmaaGreatDoor.am
open vt
set_option linter.unusedVariables false
theorem num_size {n : Int} (h0 : -9223372036854775808 ≤ n) (h1 : n ≤ 9223372036854775807) : (wNum n).size ≤ 8192 := by
  show (lx.mkB (Lib.itoa n)).size ≤ 8192
  rw [lx.mk_size]
  have := Lib.itoa_length_le n h0 h1
  omega
theorem sml_one {w : ByteArray} (h : w.size ≤ 8192) : Sml [w] := fun v hv => by rw [List.mem_singleton.1 hv]; exact h
theorem sml_nil : Sml [] := fun v hv => by cases hv
theorem sml_par {b : Int} {A : List ByteArray} {n : Int} (h : Sml A) : Sml (par b A n) := by
  unfold par
  split
  · exact h
  · exact sml_app.2 ⟨sml_app.2 ⟨sml_one (by decide), h⟩, sml_one (by decide)⟩
theorem sml_flat {S : List ByteArray} (hS : Sml S) : ∀ r : List (List ByteArray), (∀ W ∈ r, Sml W) → Sml ((r.map (S ++ ·)).flatten)
  | [], _ => sml_nil
  | b :: r, h => by
    simp only [List.map_cons, List.flatten_cons]
    exact sml_app.2 ⟨sml_app.2 ⟨hS, h b (.head _)⟩, sml_flat hS r (fun W hW => h W (.tail _ hW))⟩
theorem sml_pre {S : List ByteArray} (hS : Sml S) {Ws : List (List ByteArray)} (h : ∀ W ∈ Ws, Sml W) : Sml (pre S Ws) := by
  cases Ws with
  | nil => exact sml_nil
  | cons a r =>
    unfold pre
    exact sml_app.2 ⟨h a (.head _), sml_flat hS r (fun W hW => h W (.tail _ hW))⟩
theorem all_mem {Q : List ByteArray → Prop} {l : List VT} {Ws : List (List ByteArray)} (hl : l.length = Ws.length) (h : ∀ (i : Nat) t W, l[i]? = some t → Ws[i]? = some W → Q W) : ∀ W ∈ Ws, Q W := fun W hW => by
  obtain ⟨i, hi⟩ := List.mem_iff_getElem?.1 hW
  have hlt := (List.getElem?_eq_some_iff.1 hi).1
  exact h i _ W (List.getElem?_eq_getElem (by omega)) hi
theorem flat_sum {S : List ByteArray} (hS : S.length ≤ 1) : ∀ (l : List VT) (Ws : List (List ByteArray)), l.length = Ws.length → (∀ (i : Nat) t W, l[i]? = some t → Ws[i]? = some W → W.length + 3 ≤ 8 * t.size) → ((Ws.map (S ++ ·)).flatten).length + 2 * l.length ≤ 8 * sm l
  | [], [], _, _ => by simp [sm]
  | [], W :: Ws, h, _ => by simp at h
  | t :: l, [], h, _ => by simp at h
  | t :: l, W :: Ws, h, hw => by
    have ih := flat_sum hS l Ws (by simpa using h) (fun i t' W' a b => hw (i + 1) t' W' (by simpa using a) (by simpa using b))
    have h0 := hw 0 t W rfl rfl
    simp only [List.map_cons, List.flatten_cons, List.length_append, List.length_cons]
    have : sm (t :: l) = t.size + sm l := by simp [sm]
    omega
theorem pre_sum {S : List ByteArray} (hS : S.length ≤ 1) {l : List VT} {Ws : List (List ByteArray)} (hl : l.length = Ws.length) (hw : ∀ (i : Nat) t W, l[i]? = some t → Ws[i]? = some W → W.length + 3 ≤ 8 * t.size) : (pre S Ws).length ≤ 8 * sm l := by
  have h := flat_sum hS l Ws hl hw
  cases Ws with
  | nil => exact Nat.zero_le _
  | cons a r =>
    unfold pre
    simp only [List.map_cons, List.flatten_cons, List.length_append] at h ⊢
    omega
theorem we_sml {t : VT} {W : List ByteArray} (h : WE t W) : Sml W := by
  have hp : ∀ {Ws : List (List ByteArray)}, (∀ W ∈ Ws, Sml W) → Sml (pre [sCom] Ws) := fun h => sml_pre (sml_one (by decide)) h
  induction h with
  | num x h h0 h1 => exact sml_one (num_size h0 h1)
  | tru => exact sml_one (by decide)
  | fls => exact sml_one (by decide)
  | read => exact sml_one (by decide)
  | nam x h hs => exact sml_one hs
  | bin x a c al cl A C h h1 h2 ha hc ia ic =>
    refine sml_app.2 ⟨sml_par ia, sml_app.2 ⟨sml_one ?_, sml_par ic⟩⟩
    have : x.n = 1 ∨ x.n = 2 ∨ x.n = 3 ∨ x.n = 4 ∨ x.n = 5 ∨ x.n = 6 ∨ x.n = 7 ∨ x.n = 8 ∨ x.n = 9 ∨ x.n = 10 ∨ x.n = 11 ∨ x.n = 12 ∨ x.n = 13 := by omega
    rcases this with e | e | e | e | e | e | e | e | e | e | e | e | e <;> rw [e] <;> decide
  | neg x a al A h hn ha ia => exact sml_app.2 ⟨sml_one (by decide), sml_par ia⟩
  | nt x a al A h hn ha ia => exact sml_app.2 ⟨sml_one (by decide), sml_par ia⟩
  | idx x a c al cl A C h ha hc ia ic => exact sml_app.2 ⟨sml_par ia, sml_app.2 ⟨sml_one (by decide), sml_app.2 ⟨ic, sml_one (by decide)⟩⟩⟩
  | fld x a al A h hs ha ia => exact sml_app.2 ⟨sml_par ia, sml_app.2 ⟨sml_one (by decide), sml_one hs⟩⟩
  | lst x l Ws h hl hw ih => exact sml_app.2 ⟨sml_one (by decide), sml_app.2 ⟨hp (all_mem hl ih), sml_one (by decide)⟩⟩
  | mak x l Ws h hs hl hw ih => exact sml_app.2 ⟨sml_one (by decide), sml_app.2 ⟨sml_one hs, sml_app.2 ⟨sml_one (by decide), sml_app.2 ⟨hp (all_mem hl ih), sml_one (by decide)⟩⟩⟩⟩
  | cal x l Ws h hs hl hw ih => exact sml_app.2 ⟨sml_one hs, sml_app.2 ⟨sml_one (by decide), sml_app.2 ⟨hp (all_mem hl ih), sml_one (by decide)⟩⟩⟩
  | ext x l Ws h hs hl hw ih => exact sml_app.2 ⟨sml_one (by decide), sml_app.2 ⟨sml_one hs, sml_app.2 ⟨sml_one (by decide), sml_app.2 ⟨hp (all_mem hl ih), sml_one (by decide)⟩⟩⟩⟩
theorem par_len {b : Int} {A : List ByteArray} {n : Int} : (par b A n).length ≤ A.length + 2 := by
  unfold par
  split
  · omega
  · simp only [List.length_append, List.length_singleton]; omega
theorem sz1 (x : Lab) (l : List VT) : (Tr.mk x l).size = sm l + 1 := by rw [Tr.size_mk]; unfold sm; omega
theorem we_len {t : VT} {W : List ByteArray} (h : WE t W) : W.length + 3 ≤ 8 * t.size := by
  induction h with
  | num => rw [sz1]; simp <;> omega
  | tru => rw [sz1]; simp <;> omega
  | fls => rw [sz1]; simp <;> omega
  | read => rw [sz1]; simp <;> omega
  | nam => rw [sz1]; simp <;> omega
  | bin x a c al cl A C h h1 h2 ha hc ia ic =>
    have p1 := @par_len (tgh a) A (if (opB x.n).2 = 3 then 4 else (opB x.n).2)
    have p2 := @par_len (tgh c) C ((opB x.n).2 + 1)
    rw [sz1]
    simp only [List.length_append, List.length_singleton, sm, List.map_cons, List.map_nil, List.sum_cons, List.sum_nil]
    omega
  | neg x a al A h hn ha ia =>
    have p1 := @par_len (tgh a) A 6
    rw [sz1]
    simp only [List.length_append, List.length_singleton, sm, List.map_cons, List.map_nil, List.sum_cons, List.sum_nil]
    omega
  | nt x a al A h hn ha ia =>
    have p1 := @par_len (tgh a) A 6
    rw [sz1]
    simp only [List.length_append, List.length_singleton, sm, List.map_cons, List.map_nil, List.sum_cons, List.sum_nil]
    omega
  | idx x a c al cl A C h ha hc ia ic =>
    have p1 := @par_len (tgh a) A 7
    rw [sz1]
    simp only [List.length_append, List.length_singleton, sm, List.map_cons, List.map_nil, List.sum_cons, List.sum_nil]
    omega
  | fld x a al A h hs ha ia =>
    have p1 := @par_len (tgh a) A 7
    rw [sz1]
    simp only [List.length_append, List.length_singleton, sm, List.map_cons, List.map_nil, List.sum_cons, List.sum_nil]
    omega
  | lst x l Ws h hl hw ih =>
    have p := pre_sum (S := [sCom]) (by simp) hl ih
    rw [sz1]; simp only [List.length_append, List.length_singleton]; omega
  | mak x l Ws h hs hl hw ih =>
    have p := pre_sum (S := [sCom]) (by simp) hl ih
    rw [sz1]; simp only [List.length_append, List.length_singleton]; omega
  | cal x l Ws h hs hl hw ih =>
    have p := pre_sum (S := [sCom]) (by simp) hl ih
    rw [sz1]; simp only [List.length_append, List.length_singleton]; omega
  | ext x l Ws h hs hl hw ih =>
    have p := pre_sum (S := [sCom]) (by simp) hl ih
    rw [sz1]; simp only [List.length_append, List.length_singleton]; omega
theorem wt_sml {t : VT} {W : List ByteArray} (h : WTp t W) : Sml W ∧ W.length + 3 ≤ 8 * t.size := by
  induction h with
  | int => exact ⟨sml_one (by decide), by rw [sz1]; simp <;> omega⟩
  | bool => exact ⟨sml_one (by decide), by rw [sz1]; simp <;> omega⟩
  | rec' x h hs => exact ⟨sml_one hs, by rw [sz1]; simp <;> omega⟩
  | arr x a al A h h0 h1 ha ih =>
    refine ⟨sml_app.2 ⟨sml_one (by decide), sml_app.2 ⟨sml_one (num_size h0 h1), sml_app.2 ⟨sml_one (by decide), ih.1⟩⟩⟩, ?_⟩
    rw [sz1]
    simp only [List.length_append, List.length_singleton, sm, List.map_cons, List.map_nil, List.sum_cons, List.sum_nil]
    omega
theorem ws_sml {t : VT} {W : List ByteArray} (h : WS t W) : Sml W ∧ W.length + 3 ≤ 8 * t.size := by
  induction h with
  | blk x l Ws h hl hw ih =>
    have p := pre_sum (S := []) (by simp) hl (fun i t W a b => (ih i t W a b).2)
    exact ⟨sml_app.2 ⟨sml_one (by decide), sml_app.2 ⟨sml_pre sml_nil (all_mem hl (fun i t W a b => (ih i t W a b).1)), sml_one (by decide)⟩⟩, by rw [sz1]; simp only [List.length_append, List.length_singleton]; omega⟩
  | lt x a al A h hs ha =>
    have := we_len ha
    refine ⟨sml_app.2 ⟨sml_one (by decide), sml_app.2 ⟨sml_one hs, sml_app.2 ⟨sml_one (by decide), sml_app.2 ⟨we_sml ha, sml_one (by decide)⟩⟩⟩⟩, ?_⟩
    rw [sz1]; simp only [List.length_append, List.length_singleton, sm, List.map_cons, List.map_nil, List.sum_cons, List.sum_nil]; omega
  | new x a al A h hs ha =>
    have := (wt_sml ha).2
    refine ⟨sml_app.2 ⟨sml_one (by decide), sml_app.2 ⟨sml_one hs, sml_app.2 ⟨sml_one (by decide), sml_app.2 ⟨(wt_sml ha).1, sml_one (by decide)⟩⟩⟩⟩, ?_⟩
    rw [sz1]; simp only [List.length_append, List.length_singleton, sm, List.map_cons, List.map_nil, List.sum_cons, List.sum_nil]; omega
  | set' x a c al cl A C h ha hc =>
    have := we_len ha; have := we_len hc
    refine ⟨sml_app.2 ⟨we_sml ha, sml_app.2 ⟨sml_one (by decide), sml_app.2 ⟨we_sml hc, sml_one (by decide)⟩⟩⟩, ?_⟩
    rw [sz1]; simp only [List.length_append, List.length_singleton, sm, List.map_cons, List.map_nil, List.sum_cons, List.sum_nil]; omega
  | ifn x a c e al cl A C h ha hk hc ic =>
    have := we_len ha; have := ic.2
    refine ⟨sml_app.2 ⟨sml_one (by decide), sml_app.2 ⟨we_sml ha, ic.1⟩⟩, ?_⟩
    rw [sz1]; simp only [List.length_append, List.length_singleton, sm, List.map_cons, List.map_nil, List.sum_cons, List.sum_nil]; omega
  | ife x a c e al cl el A C E h ha hk hc he hn hE ic iE =>
    have := we_len ha; have := ic.2; have := iE.2
    refine ⟨sml_app.2 ⟨sml_one (by decide), sml_app.2 ⟨we_sml ha, sml_app.2 ⟨ic.1, sml_app.2 ⟨sml_one (by decide), iE.1⟩⟩⟩⟩, ?_⟩
    rw [sz1]; simp only [List.length_append, List.length_singleton, sm, List.map_cons, List.map_nil, List.sum_cons, List.sum_nil]; omega
  | whl x a c al cl A C h ha hk hc ic =>
    have := we_len ha; have := ic.2
    refine ⟨sml_app.2 ⟨sml_one (by decide), sml_app.2 ⟨we_sml ha, ic.1⟩⟩, ?_⟩
    rw [sz1]; simp only [List.length_append, List.length_singleton, sm, List.map_cons, List.map_nil, List.sum_cons, List.sum_nil]; omega
  | frr x a b c al bl cl A B C h hs ha hb hk hc ic =>
    have := we_len ha; have := we_len hb; have := ic.2
    refine ⟨sml_app.2 ⟨sml_one (by decide), sml_app.2 ⟨sml_one hs, sml_app.2 ⟨sml_one (by decide), sml_app.2 ⟨we_sml ha, sml_app.2 ⟨sml_one (by decide), sml_app.2 ⟨we_sml hb, ic.1⟩⟩⟩⟩⟩⟩, ?_⟩
    rw [sz1]; simp only [List.length_append, List.length_singleton, sm, List.map_cons, List.map_nil, List.sum_cons, List.sum_nil]; omega
  | prn x a al A h ha =>
    have := we_len ha
    refine ⟨sml_app.2 ⟨sml_one (by decide), sml_app.2 ⟨we_sml ha, sml_one (by decide)⟩⟩, ?_⟩
    rw [sz1]; simp only [List.length_append, List.length_singleton, sm, List.map_cons, List.map_nil, List.sum_cons, List.sum_nil]; omega
  | rtn x a al A h ha =>
    have := we_len ha
    refine ⟨sml_app.2 ⟨sml_one (by decide), sml_app.2 ⟨we_sml ha, sml_one (by decide)⟩⟩, ?_⟩
    rw [sz1]; simp only [List.length_append, List.length_singleton, sm, List.map_cons, List.map_nil, List.sum_cons, List.sum_nil]; omega
  | doo x a al A h ha =>
    have := we_len ha
    refine ⟨sml_app.2 ⟨sml_one (by decide), sml_app.2 ⟨we_sml ha, sml_one (by decide)⟩⟩, ?_⟩
    rw [sz1]; simp only [List.length_append, List.length_singleton, sm, List.map_cons, List.map_nil, List.sum_cons, List.sum_nil]; omega
theorem wf_sml {t : VT} {W : List ByteArray} (h : WF t W) : Sml W ∧ W.length + 9 ≤ 8 * t.size := by
  cases h with
  | mk x a al A hs ha =>
    have := (wt_sml ha).2
    refine ⟨sml_app.2 ⟨sml_one hs, sml_app.2 ⟨sml_one (by decide), (wt_sml ha).1⟩⟩, ?_⟩
    rw [sz1]; simp only [List.length_append, List.length_singleton, sm, List.map_cons, List.map_nil, List.sum_cons, List.sum_nil]; omega
theorem wd_sml {t : VT} {W : List ByteArray} (h : WD t W) : Sml W ∧ W.length + 3 ≤ 8 * t.size := by
  cases h with
  | rec' x l Ws h hs hl hw =>
    have hw2 : ∀ (i : Nat) t W, l[i]? = some t → (Ws.map (· ++ [sEnd]))[i]? = some W → Sml W ∧ W.length + 3 ≤ 8 * t.size := fun i t W ea eb => by
      rw [List.getElem?_map] at eb
      obtain ⟨W', hW', rfl⟩ := Option.map_eq_some_iff.1 eb
      have h := wf_sml (hw i t W' ea hW')
      exact ⟨sml_app.2 ⟨h.1, sml_one (by decide)⟩, by simp only [List.length_append, List.length_singleton]; omega⟩
    have hl2 : l.length = (Ws.map (· ++ [sEnd])).length := by rw [List.length_map]; exact hl
    have p := pre_sum (S := []) (by simp) hl2 (fun i t W a b => (hw2 i t W a b).2)
    refine ⟨sml_app.2 ⟨sml_one (by decide), sml_app.2 ⟨sml_one hs, sml_app.2 ⟨sml_one (by decide), sml_app.2 ⟨sml_pre sml_nil (all_mem hl2 (fun i t W a b => (hw2 i t W a b).1)), sml_one (by decide)⟩⟩⟩⟩, ?_⟩
    rw [sz1]; simp only [List.length_append, List.length_singleton]; omega
  | dfn x a al A h hs ha =>
    have := we_len ha
    refine ⟨sml_app.2 ⟨sml_one (by decide), sml_app.2 ⟨sml_one hs, sml_app.2 ⟨sml_one (by decide), sml_app.2 ⟨we_sml ha, sml_one (by decide)⟩⟩⟩⟩, ?_⟩
    rw [sz1]; simp only [List.length_append, List.length_singleton, sm, List.map_cons, List.map_nil, List.sum_cons, List.sum_nil]; omega
  | var' x a al A h hs ha =>
    have := (wt_sml ha).2
    refine ⟨sml_app.2 ⟨sml_one (by decide), sml_app.2 ⟨sml_one hs, sml_app.2 ⟨sml_one (by decide), sml_app.2 ⟨(wt_sml ha).1, sml_one (by decide)⟩⟩⟩⟩, ?_⟩
    rw [sz1]; simp only [List.length_append, List.length_singleton, sm, List.map_cons, List.map_nil, List.sum_cons, List.sum_nil]; omega
  | fn x p r b pl rl bl Ws R B h hn hs hl hw hr hk hb =>
    have := (wt_sml hr).2; have := (ws_sml hb).2
    have q := pre_sum (S := [sCom]) (by simp) hl (fun i t W a b => by have := (wf_sml (hw i t W a b)).2; omega)
    refine ⟨sml_app.2 ⟨sml_one (by decide), sml_app.2 ⟨sml_one hs, sml_app.2 ⟨sml_one (by decide), sml_app.2 ⟨sml_pre (sml_one (by decide)) (all_mem hl (fun i t W a b => (wf_sml (hw i t W a b)).1)), sml_app.2 ⟨sml_one (by decide), sml_app.2 ⟨sml_one (by decide), sml_app.2 ⟨(wt_sml hr).1, (ws_sml hb).1⟩⟩⟩⟩⟩⟩⟩, ?_⟩
    have e := sz1 p pl
    rw [sz1]; simp only [List.length_append, List.length_singleton, sm, List.map_cons, List.map_nil, List.sum_cons, List.sum_nil] at *; omega
  | pub x p r b pl rl bl Ws R B h hn hs hl hw hr hk hb =>
    have := (wt_sml hr).2; have := (ws_sml hb).2
    have q := pre_sum (S := [sCom]) (by simp) hl (fun i t W a b => by have := (wf_sml (hw i t W a b)).2; omega)
    refine ⟨sml_app.2 ⟨sml_one (by decide), sml_app.2 ⟨sml_one (by decide), sml_app.2 ⟨sml_one hs, sml_app.2 ⟨sml_one (by decide), sml_app.2 ⟨sml_pre (sml_one (by decide)) (all_mem hl (fun i t W a b => (wf_sml (hw i t W a b)).1)), sml_app.2 ⟨sml_one (by decide), sml_app.2 ⟨sml_one (by decide), sml_app.2 ⟨(wt_sml hr).1, (ws_sml hb).1⟩⟩⟩⟩⟩⟩⟩⟩, ?_⟩
    have e := sz1 p pl
    rw [sz1]; simp only [List.length_append, List.length_singleton, sm, List.map_cons, List.map_nil, List.sum_cons, List.sum_nil] at *; omega
end Go.Proofs.YtlkggpjdaaglmaaGreatDoor.am
end
section
namespace Go.Proofs.YtlkggpjdaaglmaaGreatDoor.am
open Go.ChangeShapes Go.WideShapes Go.ChangeAt Go.RowKit
open vt
set_option linter.unusedVariables false
set_option linter.unusedSimpArgs false
theorem wt_ne' {t : VT} {W : List ByteArray} (h : WTp t W) : W ≠ [] := by cases h <;> simp
set_option maxRecDepth 100000 in
set_option maxHeartbeats 4000000 in
theorem ptype_row (LL : List (Nat × Array Value)) (hLL : LibN LL) {t : VT} {W : List ByteArray} (hW : WTp t W) (hL : W.length ≤ 1000000) (hs : (J W).size ≤ 1000000000) : Row Tryz.prog 11 [vT t] [.lib LL] (vS (J W)) [some (.lib LL)] := by
  have e := textg_row LL 28 t W (wt_ne' hW) hL hs (ptyp_row LL hLL hW [] (by simp; omega))
  refine row_of Tryz.func11 rfl rfl (Nat.le_of_ble_eq_true rfl) ?_
  repeat' (first | refine aw_seq ?_ | refine aw_skip ?_ | refine aw_block ?_ | refine aw_exit ?_ | refine aw_ct rfl ?_ | refine aw_cf rfl ?_ | ((first | refine aw_reg (fun K hK => ?_) | refine aw_drw mixd (fun K hK => ?_) | refine ar_call (cb e 0 ?_) | refine ard_call (db e 0 ?_) | fail); simp -implicitDefEqProofs) | refine hK _ ?_ | refine hK _ _ (by rfl) ?_ | fail)
  refine aw_ret (fin_box ?_); simp -implicitDefEqProofs [FinB, resV, resT] <;> try rfl
set_option maxRecDepth 100000 in
set_option maxHeartbeats 4000000 in
theorem awake10_row (LL : List (Nat × Array Value)) (hLL : LibN LL) : Row Tryz.prog 5 [] [.lib LL] (vB true) [some (.lib LL)] := by
  have e := ptype_row LL hLL (.int ⟨1, 0, ⟨#[]⟩, 0, 0⟩ rfl) (by decide) (by rw [J_one]; decide)
  rw [J_one] at e
  refine row_of Tryz.func5 rfl rfl (Nat.le_of_ble_eq_true rfl) ?_
  repeat' (first | refine aw_seq ?_ | refine aw_skip ?_ | refine aw_block ?_ | refine aw_exit ?_ | refine aw_ct rfl ?_ | refine aw_cf rfl ?_ | ((first | refine aw_reg (fun K hK => ?_) | refine aw_drw mixd (fun K hK => ?_) | refine ar_call (cb e 0 ?_) | refine ard_call (db e 0 ?_) | fail); simp -implicitDefEqProofs) | refine hK _ ?_ | refine hK _ _ (by rfl) ?_ | fail)
  refine aw_ret (fin_box ?_); simp -implicitDefEqProofs [FinB, resV, resT] <;> try rfl
end Go.Proofs.YtlkggpjdaaglmaaGreatDoor.am
end
section
namespace Go.Proofs.YtlkggpjdaaglmaaGreatDoor.am
open Go.ChangeShapes Go.WideShapes Go.ChangeAt Go.RowKit
open vt
set_option linter.unusedVariables false
set_option linter.unusedSimpArgs false
theorem td_got : td Tryz.prog 36 = some ⟨true, 8, 88, [.lit (.int .i64 0), .lit (.int .i64 0), .lit (.string ⟨#[]⟩), .nilS, .lit (.int .i64 0), .lit (.int .i64 0), .lit (.int .i64 0), .lit (.int .i64 0)], [(0, 6, true), (6, 1, false), (7, 1, false)], .struct⟩ := Eq.trans (by kernel_rfl) (Eq.refl _)
attribute [simp] td_got
noncomputable abbrev vG (r : VT × Nat × Int) : AV := .v (.agg (((tc r.1) ++ [I (r.2.1 : Nat), I r.2.2]).map .pv))
theorem vG_ren (r : VT × Nat × Int) (ρ : Nat → Nat) : (vG r).ren ρ = vG r := by
  show AV.v (.agg (((tc r.1 ++ [I (r.2.1 : Nat), I r.2.2]).map AC.pv).map (AC.ren ρ))) = _
  rw [ren_pure]
end Go.Proofs.YtlkggpjdaaglmaaGreatDoor.am
end
section
namespace Go.Proofs.YtlkggpjdaaglmaaGreatDoor.am
open Go.ChangeShapes Go.WideShapes Go.ChangeAt Go.RowKit
open vt
set_option linter.unusedVariables false
set_option linter.unusedSimpArgs false
end Go.Proofs.YtlkggpjdaaglmaaGreatDoor.am
end
section
namespace Go.Proofs.YtlkggpjdaaglmaaGreatDoor.am
open Go.ChangeShapes Go.WideShapes Go.ChangeAt Go.RowKit
open vt
set_option linter.unusedVariables false
set_option linter.unusedSimpArgs false
theorem td_rdr : td Tryz.prog 56 = some ⟨true, 3, 40, [.nilS, .lit (.int .i64 0), .lit (.int .i64 0)], [(0, 1, false), (1, 1, false), (2, 1, false)], .struct⟩ := Eq.trans (by kernel_rfl) (Eq.refl _)
theorem td_u8 : td Tryz.prog 5 = some ⟨false, 1, 1, [.lit (.int .u8 0)], [], (.int .u8)⟩ := Eq.trans (by kernel_rfl) (Eq.refl _)
attribute [simp] td_rdr td_u8
theorem rd_ren (ts : List Tok) (i : Nat) (e : Int) (ρ : Nat → Nat) : (rd ts i e).ren ρ = rd ts i e := rfl
abbrev vR : AV := .v (.c (.ptr 0 0))
set_option maxRecDepth 100000 in
set_option maxHeartbeats 4000000 in
theorem goes_row (ts : List Tok) (i : Nat) (e : Int) : Row Tryz.prog 23 [vR] [rd ts i e] (vB (decide (e = 0))) [some (rd ts i e)] := by
  refine row_of Tryz.func23 rfl rfl (Nat.le_of_ble_eq_true rfl) ?_
  repeat (first | refine aw_seq ?_ | refine aw_skip ?_ | refine aw_block ?_ | refine aw_exit ?_ | refine aw_ct rfl ?_ | refine aw_cf rfl ?_ | ((first | refine aw_reg (fun K hK => ?_) | refine aw_drw mixd (fun K hK => ?_) | fail); simp -implicitDefEqProofs; first | refine hK _ ?_ | refine hK _ _ (by rfl) ?_ | fail) | fail)
  refine aw_ret (fin_box ?_); simp -implicitDefEqProofs [FinB, resV, resT] <;> try rfl
set_option maxRecDepth 100000 in
set_option maxHeartbeats 4000000 in
theorem place_row (ts : List Tok) (i : Nat) (e : Int) : Row Tryz.prog 53 [vR] [rd ts i e] (vI i) [some (rd ts i e)] := by
  refine row_of Tryz.func53 rfl rfl (Nat.le_of_ble_eq_true rfl) ?_
  repeat (first | refine aw_seq ?_ | refine aw_skip ?_ | refine aw_block ?_ | refine aw_exit ?_ | refine aw_ct rfl ?_ | refine aw_cf rfl ?_ | ((first | refine aw_reg (fun K hK => ?_) | refine aw_drw mixd (fun K hK => ?_) | fail); simp -implicitDefEqProofs; first | refine hK _ ?_ | refine hK _ _ (by rfl) ?_ | fail) | fail)
  refine aw_ret (fin_box ?_); simp -implicitDefEqProofs [FinB, resV, resT] <;> try rfl
set_option maxRecDepth 100000 in
set_option maxHeartbeats 4000000 in
theorem err_row (ts : List Tok) (i : Nat) (e : Int) : Row Tryz.prog 26 [vR] [rd ts i e] (vI e) [some (rd ts i e)] := by
  refine row_of Tryz.func26 rfl rfl (Nat.le_of_ble_eq_true rfl) ?_
  repeat (first | refine aw_seq ?_ | refine aw_skip ?_ | refine aw_block ?_ | refine aw_exit ?_ | refine aw_ct rfl ?_ | refine aw_cf rfl ?_ | ((first | refine aw_reg (fun K hK => ?_) | refine aw_drw mixd (fun K hK => ?_) | fail); simp -implicitDefEqProofs; first | refine hK _ ?_ | refine hK _ _ (by rfl) ?_ | fail) | fail)
  refine aw_ret (fin_box ?_); simp -implicitDefEqProofs [FinB, resV, resT] <;> try rfl
set_option maxRecDepth 100000 in
set_option maxHeartbeats 4000000 in
theorem next_row (ts : List Tok) (i : Nat) (e : Int) : Row Tryz.prog 24 [vR] [rd ts i e] (vK (nxt ts i)) [some (rd ts i e)] := by
  by_cases h : i < ts.length
  · obtain ⟨x, hx⟩ : ∃ x, ts[i]? = some x := ⟨_, List.getElem?_eq_getElem h⟩
    have hx' := (List.getElem?_eq_some_iff.1 hx).2
    rw [nxt_some hx]
    refine row_of Tryz.func24 rfl rfl (Nat.le_of_ble_eq_true rfl) ?_
    repeat (first | refine aw_seq ?_ | refine aw_skip ?_ | refine aw_block ?_ | refine aw_exit ?_ | refine aw_ct rfl ?_ | refine aw_cf rfl ?_ | ((first | refine aw_reg (fun K hK => ?_) | refine aw_drw mixd (fun K hK => ?_) | fail); simp -implicitDefEqProofs [h, hx, hx']; first | refine hK _ ?_ | refine hK _ _ (by rfl) ?_ | fail) | fail)
    refine aw_ret (fin_box ?_); simp -implicitDefEqProofs [FinB, resV, resT] <;> try rfl
  · rw [nxt_none (by omega)]
    refine row_of Tryz.func24 rfl rfl (Nat.le_of_ble_eq_true rfl) ?_
    repeat (first | refine aw_seq ?_ | refine aw_skip ?_ | refine aw_block ?_ | refine aw_exit ?_ | refine aw_ct rfl ?_ | refine aw_cf rfl ?_ | ((first | refine aw_reg (fun K hK => ?_) | refine aw_drw mixd (fun K hK => ?_) | fail); simp -implicitDefEqProofs [h]; first | refine hK _ ?_ | refine hK _ _ (by rfl) ?_ | fail) | fail)
    refine aw_ret (fin_box ?_); simp -implicitDefEqProofs [FinB, resV, resT, endK] <;> try rfl
set_option maxRecDepth 100000 in
set_option maxHeartbeats 4000000 in
theorem fail_row (ts : List Tok) (i : Nat) (e : Int) : Row Tryz.prog 110 [vR] [rd ts i e] (.tup []) [some (rd ts i (er e))] := by
  have hg := goes_row ts i e
  by_cases h : e = 0
  · subst h
    refine row_of Tryz.func110 rfl rfl (Nat.le_of_ble_eq_true rfl) ?_
    repeat' (first | refine aw_seq ?_ | refine aw_skip ?_ | refine aw_block ?_ | refine aw_exit ?_ | refine aw_ct rfl ?_ | refine aw_cf rfl ?_ | ((first | refine aw_reg (fun K hK => ?_) | refine aw_drw mixd (fun K hK => ?_) | refine ar_call (cb hg 0 ?_) | refine ard_call (db hg 0 ?_) | fail); simp -implicitDefEqProofs) | refine hK _ ?_ | refine hK _ _ (by rfl) ?_ | fail)
    refine fin_fall (fin_box ?_); simp -implicitDefEqProofs [FinB, resV, resT, er] <;> try rfl
  · refine row_of Tryz.func110 rfl rfl (Nat.le_of_ble_eq_true rfl) ?_
    repeat' (first | refine aw_seq ?_ | refine aw_skip ?_ | refine aw_block ?_ | refine aw_exit ?_ | refine aw_ct rfl ?_ | refine aw_cf rfl ?_ | ((first | refine aw_reg (fun K hK => ?_) | refine aw_drw mixd (fun K hK => ?_) | refine ar_call (cb hg 0 ?_) | refine ard_call (db hg 0 ?_) | fail); simp -implicitDefEqProofs [h]) | refine hK _ ?_ | refine hK _ _ (by rfl) ?_ | fail)
    refine fin_fall (fin_box ?_); simp -implicitDefEqProofs [FinB, resV, resT, er, h] <;> try rfl
set_option maxRecDepth 100000 in
set_option maxHeartbeats 4000000 in
theorem skip_row (ts : List Tok) (i : Nat) (e : Int) (hl : ts.length ≤ 9223372036854775807) : Row Tryz.prog 102 [vR] [rd ts i e] (.tup []) [some (rd ts (if e = 0 ∧ i < ts.length then i + 1 else i) e)] := by
  have hg := goes_row ts i e
  by_cases h : e = 0
  · subst h
    by_cases hi : i < ts.length
    · have w : IntKind.i64.wrap ((i : Nat) + 1 : Int) = (i : Nat) + 1 := i64i _ (by omega) (by omega)
      refine row_of Tryz.func102 rfl rfl (Nat.le_of_ble_eq_true rfl) ?_
      repeat' (first | refine aw_seq ?_ | refine aw_skip ?_ | refine aw_block ?_ | refine aw_exit ?_ | refine aw_ct rfl ?_ | refine aw_cf rfl ?_ | ((first | refine aw_reg (fun K hK => ?_) | refine aw_drw mixd (fun K hK => ?_) | refine ar_call (cb hg 0 ?_) | refine ard_call (db hg 0 ?_) | fail); simp -implicitDefEqProofs [hi, w]) | refine hK _ ?_ | refine hK _ _ (by rfl) ?_ | fail)
      refine fin_fall (fin_box ?_); simp -implicitDefEqProofs [FinB, resV, resT, hi] <;> try rfl
    · refine row_of Tryz.func102 rfl rfl (Nat.le_of_ble_eq_true rfl) ?_
      repeat' (first | refine aw_seq ?_ | refine aw_skip ?_ | refine aw_block ?_ | refine aw_exit ?_ | refine aw_ct rfl ?_ | refine aw_cf rfl ?_ | ((first | refine aw_reg (fun K hK => ?_) | refine aw_drw mixd (fun K hK => ?_) | refine ar_call (cb hg 0 ?_) | refine ard_call (db hg 0 ?_) | fail); simp -implicitDefEqProofs [hi]) | refine hK _ ?_ | refine hK _ _ (by rfl) ?_ | fail)
      refine fin_fall (fin_box ?_); simp -implicitDefEqProofs [FinB, resV, resT, hi] <;> try rfl
  · refine row_of Tryz.func102 rfl rfl (Nat.le_of_ble_eq_true rfl) ?_
    repeat' (first | refine aw_seq ?_ | refine aw_skip ?_ | refine aw_block ?_ | refine aw_exit ?_ | refine aw_ct rfl ?_ | refine aw_cf rfl ?_ | ((first | refine aw_reg (fun K hK => ?_) | refine aw_drw mixd (fun K hK => ?_) | refine ar_call (cb hg 0 ?_) | refine ard_call (db hg 0 ?_) | fail); simp -implicitDefEqProofs [h]) | refine hK _ ?_ | refine hK _ _ (by rfl) ?_ | fail)
    refine fin_fall (fin_box ?_); simp -implicitDefEqProofs [FinB, resV, resT, h] <;> try rfl
set_option maxRecDepth 100000 in
set_option maxHeartbeats 4000000 in
theorem quoted_row (s : ByteArray) (hs : s.size ≤ 1000) : Row Tryz.prog 126 [vS s] [] (vI (quo s)) [] := by
  by_cases h0 : s = ⟨#[]⟩
  · subst h0
    refine row_of Tryz.func126 rfl rfl (Nat.le_of_ble_eq_true rfl) ?_
    repeat (first | refine aw_seq ?_ | refine aw_skip ?_ | refine aw_block ?_ | refine aw_exit ?_ | refine aw_ct rfl ?_ | refine aw_cf rfl ?_ | ((first | refine aw_reg (fun K hK => ?_) | refine aw_drw mixd (fun K hK => ?_) | fail); simp -implicitDefEqProofs; first | refine hK _ ?_ | refine hK _ _ (by rfl) ?_ | fail) | fail)
    refine aw_ret (fin_ret ?_); simp -implicitDefEqProofs [FinP, resV, resT, quo] <;> try rfl
  obtain ⟨c, l, e3, e2⟩ : ∃ c l, s.data.toList = c :: l ∧ s[0]? = some c := by
    obtain ⟨⟨l⟩⟩ := s
    cases l with
    | nil => exact absurd rfl h0
    | cons c l => exact ⟨c, l, rfl, rfl⟩
  have hq : quo s = if 97 ≤ c.toNat ∧ c.toNat ≤ 122 then 3 else 4 := by unfold quo; rw [e3]
  rw [hq]
  clear e3 hq
  refine row_of Tryz.func126 rfl rfl (Nat.le_of_ble_eq_true rfl) ?_
  by_cases h1 : 97 ≤ c.toNat
  · have h1' : (97 : Int) ≤ c.toNat := by omega
    by_cases h2 : c.toNat ≤ 122
    · have h2' : (c.toNat : Int) ≤ 122 := by omega
      repeat (first | refine aw_seq ?_ | refine aw_skip ?_ | refine aw_block ?_ | refine aw_exit ?_ | refine aw_ct rfl ?_ | refine aw_cf rfl ?_ | ((first | refine aw_reg (fun K hK => ?_) | refine aw_drw mixd (fun K hK => ?_) | fail); simp -implicitDefEqProofs [h0, e2, h1, h2, h1', h2']; first | refine hK _ ?_ | refine hK _ _ (by rfl) ?_ | fail) | fail)
      refine aw_ret (fin_ret ?_); simp -implicitDefEqProofs [FinP, resV, resT, h1, h2] <;> try rfl
    · have h2' : ¬ (c.toNat : Int) ≤ 122 := by omega
      repeat (first | refine aw_seq ?_ | refine aw_skip ?_ | refine aw_block ?_ | refine aw_exit ?_ | refine aw_ct rfl ?_ | refine aw_cf rfl ?_ | ((first | refine aw_reg (fun K hK => ?_) | refine aw_drw mixd (fun K hK => ?_) | fail); simp -implicitDefEqProofs [h0, e2, h1, h2, h1', h2']; first | refine hK _ ?_ | refine hK _ _ (by rfl) ?_ | fail) | fail)
      refine aw_ret (fin_ret ?_); simp -implicitDefEqProofs [FinP, resV, resT, h1, h2] <;> try rfl
  · have h1' : ¬ (97 : Int) ≤ c.toNat := by omega
    repeat (first | refine aw_seq ?_ | refine aw_skip ?_ | refine aw_block ?_ | refine aw_exit ?_ | refine aw_ct rfl ?_ | refine aw_cf rfl ?_ | ((first | refine aw_reg (fun K hK => ?_) | refine aw_drw mixd (fun K hK => ?_) | fail); simp -implicitDefEqProofs [h0, e2, h1, h1']; first | refine hK _ ?_ | refine hK _ _ (by rfl) ?_ | fail) | fail)
    refine aw_ret (fin_ret ?_); simp -implicitDefEqProofs [FinP, resV, resT, h1] <;> try rfl
set_option maxRecDepth 100000 in
set_option maxHeartbeats 4000000 in
theorem is7_row (ts : List Tok) (i : Nat) (e : Int) (s : ByteArray) (hs : s.size ≤ 1000) : Row Tryz.prog 101 [vR, vS s] [rd ts i e] (vB (decide (e = 0) && isK s (nxt ts i))) [some (rd ts i e)] := by
  have h1 := next_row ts i e
  have h2 := goes_row ts i e
  have h3 := quoted_row s hs
  obtain ⟨⟨k, n, x, f, t⟩, hx⟩ : ∃ x, nxt ts i = x := ⟨_, rfl⟩
  rw [hx] at h1 ⊢
  refine row_of Tryz.func101 rfl rfl (Nat.le_of_ble_eq_true rfl) ?_
  repeat' (first | refine aw_seq ?_ | refine aw_skip ?_ | refine aw_block ?_ | refine aw_exit ?_ | refine aw_ct rfl ?_ | refine aw_cf rfl ?_ | ((first | refine aw_reg (fun K hK => ?_) | refine aw_drw mixd (fun K hK => ?_) | refine ar_call (cb h1 0 ?_) | refine ard_call (db h1 0 ?_) | refine ar_call (cb h2 0 ?_) | refine ard_call (db h2 0 ?_) | refine ar_call (cp h3 ?_) | refine ard_call (dp h3 ?_) | fail); simp -implicitDefEqProofs [*]) | refine hK _ ?_ | refine hK _ _ (by rfl) ?_ | (refine aw_cond rfl (fun hb => ?_) (fun hb => ?_) <;> ((try simp only [decide_eq_true_eq, decide_eq_false_iff_not, Bool.not_eq_true', Bool.not_eq_false', Bool.not_eq_eq_eq_not, Bool.not_true, Bool.not_false, beq_iff_eq, beq_true, beq_false, bne_iff_ne, ne_eq, Decidable.not_not, Bool.and_eq_true, Bool.or_eq_true, Bool.and_eq_false_iff, Bool.or_eq_false_iff] at hb) <;> repeat' (refine Or.elim hb (fun hb => ?_) (fun hb => ?_)))) | ((first | refine gx_split (fun hb => ?_) (fun hb => ?_) | refine gxd_split (fun hb => ?_) (fun hb => ?_) | fail) <;> ((try simp only [decide_eq_true_eq, decide_eq_false_iff_not, Bool.not_eq_true', Bool.not_eq_false', Bool.not_eq_eq_eq_not, Bool.not_true, Bool.not_false, beq_iff_eq, beq_true, beq_false, bne_iff_ne, ne_eq, Decidable.not_not, Bool.and_eq_true, Bool.or_eq_true, Bool.and_eq_false_iff, Bool.or_eq_false_iff] at hb) <;> repeat' (refine Or.elim hb (fun hb => ?_) (fun hb => ?_))) <;> simp -implicitDefEqProofs [*]) | fail)
  all_goals (refine aw_ret (fin_box ?_); simp -implicitDefEqProofs [FinB, resV, resT, isK, *] <;> try rfl)
end Go.Proofs.YtlkggpjdaaglmaaGreatDoor.am
end
