/-
  A machine of values: the library's Builder: its own check of itself, and its String, by their contracts. No program is named here.
-/
import Derived.Test.YtlkggpjdaaglmaaDoorAmC
import Derived.Below
namespace Go.Proofs.YtlkggpjdaaglmaaDoor.am
open Go.ChangeShapes Go.WideShapes Go.ChangeAt Go.RowKit
set_option linter.unusedVariables false
set_option linter.unusedSectionVars false
section
variable {P : Program} {N nb : Nat} {st : St} {Q : Exit → St → Prop}
/-- The state in which a builder's slice, nil yet, is one of the call's own. -/
def St.nilb (st : St) (id : Nat) (t e : TypeId) : St := ⟨st.tm, (id, some (.bld t (.row st.nx 1 []))) :: (st.nx, some (.row e 1)) :: st.hp, st.nx + 1⟩
theorem aw_nilb {c : Code} (id : Nat) (t e : TypeId) (hid : hlk st.hp id = some (.bld t (.pv .nilS))) (hlt : id < st.nx) (h : AW P N nb c (st.nilb id t e) Q) : AW P N nb c st Q := by
  refine aw_cov (fun X hX a w hr => ?_) h
  obtain ⟨h1, h2, γ, S, hm, ha⟩ := hr
  have hG := GOn.upd_un (hm.un st.nx (Nat.le_refl _)) (.val (.slice none 0 0))
  refine ⟨h1, h2, upd γ st.nx (.val (.slice none 0 0)), S, ?_, fun s => (ha s).mono hG (fun _ _ h => h) (fun _ _ _ => rfl)⟩
  have m := hm.nilrow (nm := st.nx) (Nat.le_refl _) e 1
  show Mem X (hlk ((id, some (.bld t (.row st.nx 1 []))) :: (st.nx, some (.row e 1)) :: st.hp)) _ _ _ _
  rw [hlk_cons, hlk_cons]
  have hne : id ≠ st.nx := by omega
  have hid' : upd (hlk st.hp) st.nx (some (.row e 1)) id = some (.bld t (.pv .nilS)) := by rw [upd_ne _ _ hne]; exact hid
  refine { m with un := fun x hx => m.un x ⟨by have : st.nx + 1 ≤ x := hx
                                               omega, by have : st.nx + 1 ≤ x := hx
                                                         omega⟩, off := fun x hx => ?_, obj := fun x o hx => ?_ }
  · by_cases hxi : x = id
    · subst hxi; rw [upd_same] at hx; cases hx
    · rw [upd_ne _ _ hxi] at hx; exact m.off x hx
  · by_cases hxi : x = id
    · subst hxi
      rw [upd_same] at hx; cases hx
      obtain ⟨b, p, v, k1, k2, k3, k4, k5⟩ := m.obj x _ hid'
      exact ⟨b, p, v, k1, k2, k3, nil_row_rep (γ := upd γ st.nx (.val (.slice none 0 0))) k4 (upd_same _ _ _), k5⟩
    · rw [upd_ne _ _ hxi] at hx; exact m.obj x o hx
end
section
variable {X : Ctx} {H : Nat → Option AO} {U : Nat → Prop} {γ : Nat → G} {S : CS} {w : World}
/-- A block that no name leads to, whose cells read as before. -/
theorem Mem.frzn (h : Mem X H U γ S w) {g : Nat} (hno : ∀ x, (γ x).bk ≠ some g) (hg : X.w0.heap.size ≤ g ∨ ∃ y, (X.γ0 y).bk = some g) {w' : World} (os : w'.os = w.os) (tape : w'.tape = w.tape) (out : w'.output = w.output) (size : w'.heap.size = w.heap.size)
    (hoth : ∀ k, k ≠ g → w'.heap[k]? = w.heap[k]?) (hcell : ∀ k, w'.cell? ⟨g, k, none⟩ = w.cell? ⟨g, k, none⟩) : Mem X H U γ S w' := by
  have hw : ∀ b k, S b k → w'.cell? ⟨b, k, none⟩ = w.cell? ⟨b, k, none⟩ := fun b k hs => by
    by_cases hb : b = g
    · rw [hb]; exact hcell k
    · exact World.cell?_of_block (hoth b hb)
  refine ⟨os.trans h.os, tape.trans h.tape, out.trans h.output, by rw [size]; exact h.size, fun b hb hx => ?_, fun b k hs => ⟨(h.keep b k hs).1, by rw [hw b k (h.keep b k hs).1]; exact (h.keep b k hs).2⟩, h.fresh, fun b k hs => by rw [size]; exact h.inb b k hs, h.mono, h.un, h.off, fun x o hx => ?_, h.dist, fun x b hb => by rw [size]; exact h.live x b hb⟩
  · rw [hoth b (fun e => ?_)]
    · exact h.frame b hb hx
    · subst e
      rcases hg with hg | ⟨y, hy⟩
      · omega
      · exact hx y hy
  · exact Obj'.on (h.obj x o hx) rfl (GOn.refl _) (fun _ _ h => h) hw (fun b hb => ⟨hoth b (fun e => hno x (e ▸ hb)), fun _ h => h⟩)
/-- Blocks made besides, none turned. -/
theorem Mem.more (h : Mem X H U γ S w) {w' : World} (hb : Below w.heap.size w w') : Mem X H U γ S w' := by
  have hw : ∀ b k, S b k → w'.cell? ⟨b, k, none⟩ = w.cell? ⟨b, k, none⟩ := fun b k hs => World.cell?_of_block (hb.block b (h.inb b k hs))
  refine ⟨hb.os.trans h.os, hb.tape.trans h.tape, hb.output.trans h.output, Nat.le_trans h.size hb.size, fun b hbb hx => ?_, fun b k hs => ⟨(h.keep b k hs).1, by rw [hw b k (h.keep b k hs).1]; exact (h.keep b k hs).2⟩, h.fresh, fun b k hs => Nat.lt_of_lt_of_le (h.inb b k hs) hb.size, h.mono, h.un, h.off, fun x o hx => ?_, h.dist, fun x b hbb => ⟨Nat.lt_of_lt_of_le (h.live x b hbb).1 hb.size, (h.live x b hbb).2⟩⟩
  · rw [hb.block b (Nat.lt_of_lt_of_le hbb h.size)]; exact h.frame b hbb hx
  · exact Obj'.on (h.obj x o hx) rfl (GOn.refl _) (fun _ _ h => h) hw (fun b hbb => ⟨hb.block b (h.live x b hbb).1, fun _ h => h⟩)
end
/-- The check of itself: what the two contracts say. -/
structure CopyK (P : Program) (f : Nat) (T : TypeId) : Prop where
  used : ∀ (b : Nat) (w : World), w.cell? ⟨b, 0, none⟩ = some (.pointer (some ⟨b, 0, none⟩)) → Calls P f #[.pointer (some ⟨b, 0, none⟩)] w fun e w' => e = .returned (.tuple #[]) ∧ w' = w
  fresh : ∀ (b : Nat) (w : World), w.cell? ⟨b, 0, none⟩ = some (.pointer none) → w.shape? b = some (T, 2) → w.frozen? ⟨b, 0, none⟩ = false → Calls P f #[.pointer (some ⟨b, 0, none⟩)] w fun e w' => e = .returned (.tuple #[]) ∧ w' = w.setCell ⟨b, 0, none⟩ (.pointer (some ⟨b, 0, none⟩))
theorem ptr_arg {γ : Nat → G} {S : CS} {w : World} {vs : List Value} {id : Nat} (h : RepVs γ S w vs [.v (.c (.ptr id 0))]) : ∃ b, vs = [.pointer (some ⟨b, 0, none⟩)] ∧ γ id = .blk b := by
  match vs, h with
  | [u], h =>
    obtain ⟨⟨b, k1, rfl⟩, _⟩ := h
    exact ⟨b, rfl, k1⟩
theorem copy_spec {P : Program} {f : Nat} {T : TypeId} (hk : CopyK P f T) (e : TypeId) (l : List (List PV)) : Spec P f [.v (.c (.ptr 0 0))] [.bld T (.row 1 1 l), .row e 1] (.tup []) [some (.bld T (.row 1 1 l)), some (.row e 1)] := fun γ S w vs hm hv => by
  obtain ⟨b, rfl, hb⟩ := ptr_arg hv
  obtain ⟨b', p, v, g1, g2, g3, g4, g5⟩ := hm.obj 0 _ rfl
  rw [g1] at hb; cases hb
  have e0 : (fun x : Nat => ([some (AO.bld T (.row 1 1 l)), some (.row e 1)][x]?).join) = fun x : Nat => [AO.bld T (.row 1 1 l), .row e 1][x]? := by
    funext x
    match x with
    | 0 => rfl
    | 1 => rfl
    | x + 2 => simp
  have hc0 : w.cell? ⟨b, 0, none⟩ = some p := by rw [cell_row g2]; rfl
  rcases g3 with rfl | rfl
  · refine (hk.fresh b w hc0 (by simp [World.shape?, g2]) (by simp [World.frozen?, g2])).mono ?_
    rintro e1 w' ⟨rfl, rfl⟩
    have hoth : ∀ k, k ≠ b → (w.setCell ⟨b, 0, none⟩ (.pointer (some ⟨b, 0, none⟩))).heap[k]? = w.heap[k]? := fun k hk => Below.heap_setCell _ _ _ _ hk
    have hw : ∀ b' k, S b' k → (w.setCell ⟨b, 0, none⟩ (.pointer (some ⟨b, 0, none⟩))).cell? ⟨b', k, none⟩ = w.cell? ⟨b', k, none⟩ := fun b' k hs => World.cell?_of_block (hoth b' (fun e => g5 k (e ▸ hs)))
    have m := hm.turn (id := 0) (b := b) (by rw [g1]; rfl) (w' := w.setCell ⟨b, 0, none⟩ (.pointer (some ⟨b, 0, none⟩))) rfl rfl rfl (by simp [World.setCell]) hoth g5 (.bld T (.row 1 1 l)) ⟨b, _, v, g1, by simp [World.setCell, Array.getElem?_modify, g2], .inr rfl, g4.mono (GOn.refl _) (fun _ _ h => h) hw, g5⟩
    refine ⟨_, γ, S, rfl, ?_, ⟨#[], rfl, rfl, fun i c h => by simp at h⟩⟩
    rw [e0]
    have e2 : upd (fun x : Nat => [AO.bld T (.row 1 1 l), .row e 1][x]?) 0 (some (.bld T (.row 1 1 l))) = fun x : Nat => [AO.bld T (.row 1 1 l), .row e 1][x]? := by
      funext x
      match x with
      | 0 => rfl
      | x + 1 => rfl
    rw [e2] at m
    exact m
  · refine (hk.used b w hc0).mono ?_
    rintro e1 w' ⟨rfl, rfl⟩
    refine ⟨_, γ, S, rfl, ?_, ⟨#[], rfl, rfl, fun i c h => by simp at h⟩⟩
    rw [e0]; exact hm
/-- String: what its contracts say. -/
structure StrK (P : Program) (f : Nat) (T E : TypeId) : Prop where
  emp : ∀ (b : Nat) (p v : Value) (xs : List Value) (w : World), w.heap[b]? = some (.cells #[p, v] T (0, 0)) → w.ownsRow 0 E 1 v 0 xs → Calls P f #[.pointer (some ⟨b, 0, none⟩)] w fun e w' => e = .returned (.string .empty) ∧ Below w.heap.size w w'
  yes : ∀ (b g cap : Nat) (cur : Array Value) (p : Value) (t : TypeId) (s : ByteArray) (w : World), 0 < s.size → w.heap[b]? = some (.cells #[p, .slice (some ⟨g, 0, none⟩) s.size cap] t (0, 0)) → w.ownsRow 0 E 1 (.slice (some ⟨g, 0, none⟩) s.size cap) s.size (Lib.strCells s) →
    Calls P f #[.pointer (some ⟨b, 0, none⟩)] w fun e w' => e = .returned (.string s) ∧ w' = w.drew.freeze ⟨g, 0, none⟩ s.size
theorem freeze_size (w : World) (p : Addr) (n : Nat) : (w.freeze p n).heap.size = w.heap.size := by
  unfold World.freeze
  split <;> simp
theorem freeze_other (w : World) (g n k : Nat) (h : k ≠ g) : (w.freeze ⟨g, 0, none⟩ n).heap[k]? = w.heap[k]? := by
  unfold World.freeze
  split
  · rfl
  · simp only [Array.getElem?_modify]
    rw [if_neg (Ne.symm h)]
theorem freeze_cell (w : World) (g n k : Nat) : (w.freeze ⟨g, 0, none⟩ n).cell? ⟨g, k, none⟩ = w.cell? ⟨g, k, none⟩ := by
  unfold World.freeze
  split
  · rfl
  · simp only [World.cell?, Array.getElem?_modify, if_true]
    cases w.heap[g]? with
    | none => rfl
    | some o => cases o <;> rfl
theorem row_str {γ : Nat → G} {S : CS} {w : World} {x : Nat} {E : TypeId} {s : ByteArray} {v : Value} (h : Obj' γ S w x (.row E 1)) (hv : RepC γ S w v (.row x 1 (bL s))) : γ x = .val v ∧ w.ownsRow 0 E 1 v s.size (Lib.strCells s) := by
  obtain ⟨h1, h2⟩ := hv
  obtain ⟨v0, n, xs, g1, g2, g3⟩ := h
  have hvv : v = v0 := by
    rcases h2 with h2 | h2
    · rw [g1] at h2; cases h2
    · rw [g1] at h2; cases h2; rfl
  subst hvv
  obtain ⟨a, c, rfl, hs⟩ := sl_inv h1
  have hn : n = s.size := by
    rw [bL_len] at g2
    rcases g2.2 with ⟨k1, k2⟩ | ⟨g, cap, cur, k1, _⟩
    · injection k1 with _ k3 _; omega
    · injection k1 with _ k3 _; omega
  subst hn
  have hx : xs = Lib.strCells s := by
    apply List.ext_getElem?
    intro i
    by_cases hi : i < s.size
    · have hlt : i < (Lib.strCells s).length := by rw [Lib.strCells_length]; exact hi
      have hlx : i < xs.length := by rw [g2.1]; omega
      rw [List.getElem?_eq_getElem hlx, List.getElem?_eq_getElem hlt]
      congr 1
      rcases hs.at' with hz | ⟨b, off, hb, hes, hc⟩
      · have := bL_len s; rw [hz] at this; simp at this; omega
      · obtain ⟨_, u, k1, k2⟩ := hc i [.lit (Lib.strCells s)[i]] 0 (.lit (Lib.strCells s)[i]) (by unfold bL; rw [List.getElem?_map, List.getElem?_eq_getElem hlt]; rfl) rfl
        rcases g2.2 with ⟨k3, k4⟩ | ⟨g, cap, cur, k3, _⟩
        · omega
        · have hbb := hb
          injection k3 with q1 _ _
          rw [hb] at q1
          injection q1 with q1
          injection q1 with q1 q2 _
          subst q1 q2
          have := g2.cells (g := b) (by rw [hbb]; rfl) i xs[i] (List.getElem?_eq_getElem hlx)
          rw [addr_add] at this
          rw [show 0 + i * 1 + 0 = 0 + i by omega, this] at k1
          cases k1
          exact (lit_inv (γ := γ) (S := S) (w := w) k2).1
    · rw [List.getElem?_eq_none (by rw [g2.1]; omega), List.getElem?_eq_none (by rw [Lib.strCells_length]; omega)]
  subst hx
  exact ⟨g1, g2⟩
theorem string_spec {P : Program} {f : Nat} {T E : TypeId} (hk : StrK P f T E) (s : ByteArray) : Spec P f [.v (.c (.ptr 0 0))] [.bld T (.row 1 1 (bL s)), .row E 1] (.v (.c (.pv (.lit (.string s))))) [some (.bld T (.row 1 1 (bL s))), none] := fun γ S w vs hm hv => by
  obtain ⟨b, rfl, hb⟩ := ptr_arg hv
  obtain ⟨b', p, v, g1, g2, g3, g4, g5⟩ := hm.obj 0 _ rfl
  rw [g1] at hb; cases hb
  obtain ⟨k1, k2⟩ := row_str (hm.obj 1 _ rfl) g4
  have e0 : (fun x : Nat => ([some (AO.bld T (.row 1 1 (bL s))), none][x]?).join) = upd (fun x : Nat => [AO.bld T (.row 1 1 (bL s)), .row E 1][x]?) 1 none := by
    funext x
    match x with
    | 0 => rfl
    | 1 => rfl
    | x + 2 => simp [upd]
  have mk := hm.kill k1
  have hU : ∀ {w'}, Mem ⟨w, S, γ, []⟩ (upd (fun x : Nat => [AO.bld T (.row 1 1 (bL s)), .row E 1][x]?) 1 none) (fun x => [AO.bld T (.row 1 1 (bL s)), .row E 1].length ≤ x) (upd γ 1 .dead) S w' → ∃ v γ' S', Ending.returned (.string s) = .returned v ∧ Mem ⟨w, S, γ, []⟩ (fun x : Nat => ([some (AO.bld T (.row 1 1 (bL s))), none][x]?).join) (fun x => [some (AO.bld T (.row 1 1 (bL s))), none].length ≤ x) γ' S' w' ∧ RepV γ' S' w' v (.v (.c (.pv (.lit (.string s))))) := fun {w'} m => by
    refine ⟨.string s, upd γ 1 .dead, S, rfl, ?_, RepP.lit _ rfl⟩
    rw [e0]; exact m
  rcases Nat.eq_zero_or_pos s.size with h0 | h0
  · have hs : s = .empty := by
      apply ByteArray.ext
      exact Array.eq_empty_of_size_eq_zero h0
    rw [h0] at k2
    refine (hk.emp b p v _ w g2 k2).mono ?_
    rintro e1 w' ⟨rfl, hbl⟩
    rw [← hs]
    exact hU (mk.more hbl)
  · rcases k2.2 with ⟨k3, k4⟩ | ⟨g, cap, cur, k3, _⟩
    · omega
    · subst k3
      refine (hk.yes b g cap cur p T s w h0 g2 k2).mono ?_
      rintro e1 w' ⟨rfl, rfl⟩
      have hgb : (γ 1).bk = some g := by rw [k1]; rfl
      refine hU (mk.drew.frzn (g := g) (fun x hx => ?_) (hm.live 1 g hgb).2 (by unfold World.freeze; split <;> rfl) (by unfold World.freeze; split <;> rfl) (by unfold World.freeze; split <;> rfl) (freeze_size _ _ _) (fun k hk => freeze_other _ _ _ _ hk) (fun k => freeze_cell _ _ _ _))
      by_cases h1 : x = 1
      · subst h1; rw [upd_same] at hx; cases hx
      · rw [upd_ne _ _ h1] at hx; exact hm.dist x 1 h1 g hx hgb
end Go.Proofs.YtlkggpjdaaglmaaDoor.am
