import Derived.Below
import Derived.Test.YtlkggpjdaaglmaaGreatDoorPkR9
import Derived.Test.YtlkggpjdaaglmaaGreatDoorPkR8
import Derived.Test.YtlkggpjdaaglmaaGreatDoorPkR10
import Derived.Test.YtlkggpjdaaglmaaGreatDoorPkR13
import Derived.Test.YtlkggpjdaaglmaaGreatDoorPkR12
import Derived.Lib.ItoaLen
section
namespace Go.Proofs.YtlkggpjdaaglmaaGreatDoor.am
open Go.ChangeShapes Go.WideShapes Go.ChangeAt Go.RowKit
set_option linter.unusedVariables false
set_option linter.unusedSectionVars false
section
variable {P : Program} {N nb : Nat} {st : St} {Q : Exit → St → Prop}
def St.nilb (st : St) (id : Nat) (t e : TypeId) : St := ⟨st.tm, (id, some (.bld t (.row st.nx 1 []))) :: (st.nx, some (.row e 1)) :: st.hp, st.nx + 1⟩
theorem aw_nilb {c : Code} (id : Nat) (t e : TypeId) (hid : hlk st.hp id = some (.bld t (.pv .nilS))) (hlt : id < st.nx) (h : AW P N nb c (st.nilb id t e) Q) : AW P N nb c st Q := by
  refine aw_cov (fun X hX a w hr => ?_) h
  obtain ⟨h1, h2, γ, S, hm, ha⟩ := hr
  have hG := GOn.upd_un (hm.un st.nx (Nat.le_refl _)) (.val (.slice none 0 0))
  refine ⟨h1, h2, upd γ st.nx (.val (.slice none 0 0)), S, ?_, fun s => (ha s).mono hG (fun _ _ h => h) (fun _ _ _ => rfl)⟩
  have m := hm.nilrow (nm := st.nx) (Nat.le_refl _) e 1
  show Mem X (hlk ((id, some (.bld t (.row st.nx 1 []))) :: (st.nx, some (.row e 1)) :: st.hp)) _ _ _ _
  rw [hlk_cons, hlk_cons]
  have hne : id ≠ st.nx := by omega
  have hid' : upd (hlk st.hp) st.nx (some (.row e 1)) id = some (.bld t (.pv .nilS)) := by rw [upd_ne _ _ hne]; exact hid
  refine { m with un := fun x hx => m.un x ⟨by have : st.nx + 1 ≤ x := hx
                                               omega, by have : st.nx + 1 ≤ x := hx
                                                         omega⟩, off := fun x hx => ?_, obj := fun x o hx => ?_ }
  · by_cases hxi : x = id
    · subst hxi; rw [upd_same] at hx; cases hx
    · rw [upd_ne _ _ hxi] at hx; exact m.off x hx
  · by_cases hxi : x = id
    · subst hxi
      rw [upd_same] at hx; cases hx
      obtain ⟨b, p, v, k1, k2, k3, k4, k5⟩ := m.obj x _ hid'
      exact ⟨b, p, v, k1, k2, k3, nil_row_rep (γ := upd γ st.nx (.val (.slice none 0 0))) k4 (upd_same _ _ _), k5⟩
    · rw [upd_ne _ _ hxi] at hx; exact m.obj x o hx
end
section
variable {X : Ctx} {H : Nat → Option AO} {U : Nat → Prop} {γ : Nat → G} {S : CS} {w : World}
theorem Mem.frzn (h : Mem X H U γ S w) {g : Nat} (hno : ∀ x, (γ x).bk ≠ some g) (hg : X.w0.heap.size ≤ g ∨ ∃ y, (X.γ0 y).bk = some g) {w' : World} (os : w'.os = w.os) (tape : w'.tape = w.tape) (out : w'.output = w.output) (size : w'.heap.size = w.heap.size)
    (hoth : ∀ k, k ≠ g → w'.heap[k]? = w.heap[k]?) (hcell : ∀ k, w'.cell? ⟨g, k, none⟩ = w.cell? ⟨g, k, none⟩) : Mem X H U γ S w' := by
  have hw : ∀ b k, S b k → w'.cell? ⟨b, k, none⟩ = w.cell? ⟨b, k, none⟩ := fun b k hs => by
    by_cases hb : b = g
    · rw [hb]; exact hcell k
    · exact World.cell?_of_block (hoth b hb)
  refine ⟨os.trans h.os, tape.trans h.tape, out.trans h.output, by rw [size]; exact h.size, fun b hb hx => ?_, fun b k hs => ⟨(h.keep b k hs).1, by rw [hw b k (h.keep b k hs).1]; exact (h.keep b k hs).2⟩, h.fresh, fun b k hs => by rw [size]; exact h.inb b k hs, h.mono, h.un, h.off, fun x o hx => ?_, h.dist, fun x b hb => by rw [size]; exact h.live x b hb⟩
  · rw [hoth b (fun e => ?_)]
    · exact h.frame b hb hx
    · subst e
      rcases hg with hg | ⟨y, hy⟩
      · omega
      · exact hx y hy
  · exact Obj'.on (h.obj x o hx) rfl (GOn.refl _) (fun _ _ h => h) hw (fun b hb => ⟨hoth b (fun e => hno x (e ▸ hb)), fun _ h => h⟩)
theorem Mem.more (h : Mem X H U γ S w) {w' : World} (hb : Below w.heap.size w w') : Mem X H U γ S w' := by
  have hw : ∀ b k, S b k → w'.cell? ⟨b, k, none⟩ = w.cell? ⟨b, k, none⟩ := fun b k hs => World.cell?_of_block (hb.block b (h.inb b k hs))
  refine ⟨hb.os.trans h.os, hb.tape.trans h.tape, hb.output.trans h.output, Nat.le_trans h.size hb.size, fun b hbb hx => ?_, fun b k hs => ⟨(h.keep b k hs).1, by rw [hw b k (h.keep b k hs).1]; exact (h.keep b k hs).2⟩, h.fresh, fun b k hs => Nat.lt_of_lt_of_le (h.inb b k hs) hb.size, h.mono, h.un, h.off, fun x o hx => ?_, h.dist, fun x b hbb => ⟨Nat.lt_of_lt_of_le (h.live x b hbb).1 hb.size, (h.live x b hbb).2⟩⟩
  · rw [hb.block b (Nat.lt_of_lt_of_le hbb h.size)]; exact h.frame b hbb hx
  · exact Obj'.on (h.obj x o hx) rfl (GOn.refl _) (fun _ _ h => h) hw (fun b hbb => ⟨hb.block b (h.live x b hbb).1, fun _ h => h⟩)
end
structure CopyK (P : Program) (f : Nat) (T : TypeId) : Prop where
  used : ∀ (b : Nat) (w : World), w.cell? ⟨b, 0, none⟩ = some (.pointer (some ⟨b, 0, none⟩)) → Calls P f #[.pointer (some ⟨b, 0, none⟩)] w fun e w' => e = .returned (.tuple #[]) ∧ w' = w
  fresh : ∀ (b : Nat) (w : World), w.cell? ⟨b, 0, none⟩ = some (.pointer none) → w.shape? b = some (T, 2) → w.frozen? ⟨b, 0, none⟩ = false → Calls P f #[.pointer (some ⟨b, 0, none⟩)] w fun e w' => e = .returned (.tuple #[]) ∧ w' = w.setCell ⟨b, 0, none⟩ (.pointer (some ⟨b, 0, none⟩))
theorem ptr_arg {γ : Nat → G} {S : CS} {w : World} {vs : List Value} {id : Nat} (h : RepVs γ S w vs [.v (.c (.ptr id 0))]) : ∃ b, vs = [.pointer (some ⟨b, 0, none⟩)] ∧ γ id = .blk b := by
  match vs, h with
  | [u], h =>
    obtain ⟨⟨b, k1, rfl⟩, _⟩ := h
    exact ⟨b, rfl, k1⟩
theorem copy_spec {P : Program} {f : Nat} {T : TypeId} (hk : CopyK P f T) (e : TypeId) (l : List (List PV)) : Spec P f [.v (.c (.ptr 0 0))] [.bld T (.row 1 1 l), .row e 1] (.tup []) [some (.bld T (.row 1 1 l)), some (.row e 1)] := fun γ S w vs hm hv => by
  obtain ⟨b, rfl, hb⟩ := ptr_arg hv
  obtain ⟨b', p, v, g1, g2, g3, g4, g5⟩ := hm.obj 0 _ rfl
  rw [g1] at hb; cases hb
  have e0 : (fun x : Nat => ([some (AO.bld T (.row 1 1 l)), some (.row e 1)][x]?).join) = fun x : Nat => [AO.bld T (.row 1 1 l), .row e 1][x]? := by
    funext x
    match x with
    | 0 => rfl
    | 1 => rfl
    | x + 2 => simp
  have hc0 : w.cell? ⟨b, 0, none⟩ = some p := by rw [cell_row g2]; rfl
  rcases g3 with rfl | rfl
  · refine (hk.fresh b w hc0 (by simp [World.shape?, g2]) (by simp [World.frozen?, g2])).mono ?_
    rintro e1 w' ⟨rfl, rfl⟩
    have hoth : ∀ k, k ≠ b → (w.setCell ⟨b, 0, none⟩ (.pointer (some ⟨b, 0, none⟩))).heap[k]? = w.heap[k]? := fun k hk => Below.heap_setCell _ _ _ _ hk
    have hw : ∀ b' k, S b' k → (w.setCell ⟨b, 0, none⟩ (.pointer (some ⟨b, 0, none⟩))).cell? ⟨b', k, none⟩ = w.cell? ⟨b', k, none⟩ := fun b' k hs => World.cell?_of_block (hoth b' (fun e => g5 k (e ▸ hs)))
    have m := hm.turn (id := 0) (b := b) (by rw [g1]; rfl) (w' := w.setCell ⟨b, 0, none⟩ (.pointer (some ⟨b, 0, none⟩))) rfl rfl rfl (by simp [World.setCell]) hoth g5 (.bld T (.row 1 1 l)) ⟨b, _, v, g1, by simp [World.setCell, Array.getElem?_modify, g2], .inr rfl, g4.mono (GOn.refl _) (fun _ _ h => h) hw, g5⟩
    refine ⟨_, γ, S, rfl, ?_, ⟨#[], rfl, rfl, fun i c h => by simp at h⟩⟩
    rw [e0]
    have e2 : upd (fun x : Nat => [AO.bld T (.row 1 1 l), .row e 1][x]?) 0 (some (.bld T (.row 1 1 l))) = fun x : Nat => [AO.bld T (.row 1 1 l), .row e 1][x]? := by
      funext x
      match x with
      | 0 => rfl
      | x + 1 => rfl
    rw [e2] at m
    exact m
  · refine (hk.used b w hc0).mono ?_
    rintro e1 w' ⟨rfl, rfl⟩
    refine ⟨_, γ, S, rfl, ?_, ⟨#[], rfl, rfl, fun i c h => by simp at h⟩⟩
    rw [e0]; exact hm
structure StrK (P : Program) (f : Nat) (T E : TypeId) : Prop where
  emp : ∀ (b : Nat) (p v : Value) (xs : List Value) (w : World), w.heap[b]? = some (.cells #[p, v] T (0, 0)) → w.ownsRow 0 E 1 v 0 xs → Calls P f #[.pointer (some ⟨b, 0, none⟩)] w fun e w' => e = .returned (.string .empty) ∧ Below w.heap.size w w'
  yes : ∀ (b g cap : Nat) (cur : Array Value) (p : Value) (t : TypeId) (s : ByteArray) (w : World), 0 < s.size → w.heap[b]? = some (.cells #[p, .slice (some ⟨g, 0, none⟩) s.size cap] t (0, 0)) → w.ownsRow 0 E 1 (.slice (some ⟨g, 0, none⟩) s.size cap) s.size (Lib.strCells s) →
    Calls P f #[.pointer (some ⟨b, 0, none⟩)] w fun e w' => e = .returned (.string s) ∧ w' = w.drew.freeze ⟨g, 0, none⟩ s.size
theorem freeze_size (w : World) (p : Addr) (n : Nat) : (w.freeze p n).heap.size = w.heap.size := by
  unfold World.freeze
  split <;> simp
theorem freeze_other (w : World) (g n k : Nat) (h : k ≠ g) : (w.freeze ⟨g, 0, none⟩ n).heap[k]? = w.heap[k]? := by
  unfold World.freeze
  split
  · rfl
  · simp only [Array.getElem?_modify]
    rw [if_neg (Ne.symm h)]
theorem freeze_cell (w : World) (g n k : Nat) : (w.freeze ⟨g, 0, none⟩ n).cell? ⟨g, k, none⟩ = w.cell? ⟨g, k, none⟩ := by
  unfold World.freeze
  split
  · rfl
  · simp only [World.cell?, Array.getElem?_modify, if_true]
    cases w.heap[g]? with
    | none => rfl
    | some o => cases o <;> rfl
theorem row_str {γ : Nat → G} {S : CS} {w : World} {x : Nat} {E : TypeId} {s : ByteArray} {v : Value} (h : Obj' γ S w x (.row E 1)) (hv : RepC γ S w v (.row x 1 (bL s))) : γ x = .val v ∧ w.ownsRow 0 E 1 v s.size (Lib.strCells s) := by
  obtain ⟨h1, h2⟩ := hv
  obtain ⟨v0, n, xs, g1, g2, g3⟩ := h
  have hvv : v = v0 := by
    rcases h2 with h2 | h2
    · rw [g1] at h2; cases h2
    · rw [g1] at h2; cases h2; rfl
  subst hvv
  obtain ⟨a, c, rfl, hs⟩ := sl_inv h1
  have hn : n = s.size := by
    rw [bL_len] at g2
    rcases g2.2 with ⟨k1, k2⟩ | ⟨g, cap, cur, k1, _⟩
    · injection k1 with _ k3 _; omega
    · injection k1 with _ k3 _; omega
  subst hn
  have hx : xs = Lib.strCells s := by
    apply List.ext_getElem?
    intro i
    by_cases hi : i < s.size
    · have hlt : i < (Lib.strCells s).length := by rw [Lib.strCells_length]; exact hi
      have hlx : i < xs.length := by rw [g2.1]; omega
      rw [List.getElem?_eq_getElem hlx, List.getElem?_eq_getElem hlt]
      congr 1
      rcases hs.at' with hz | ⟨b, off, hb, hes, hc⟩
      · have := bL_len s; rw [hz] at this; simp at this; omega
      · obtain ⟨_, u, k1, k2⟩ := hc i [.lit (Lib.strCells s)[i]] 0 (.lit (Lib.strCells s)[i]) (by unfold bL; rw [List.getElem?_map, List.getElem?_eq_getElem hlt]; rfl) rfl
        rcases g2.2 with ⟨k3, k4⟩ | ⟨g, cap, cur, k3, _⟩
        · omega
        · have hbb := hb
          injection k3 with q1 _ _
          rw [hb] at q1
          injection q1 with q1
          injection q1 with q1 q2 _
          subst q1 q2
          have := g2.cells (g := b) (by rw [hbb]; rfl) i xs[i] (List.getElem?_eq_getElem hlx)
          rw [addr_add] at this
          rw [show 0 + i * 1 + 0 = 0 + i by omega, this] at k1
          cases k1
          exact (lit_inv (γ := γ) (S := S) (w := w) k2).1
    · rw [List.getElem?_eq_none (by rw [g2.1]; omega), List.getElem?_eq_none (by rw [Lib.strCells_length]; omega)]
  subst hx
  exact ⟨g1, g2⟩
theorem string_spec {P : Program} {f : Nat} {T E : TypeId} (hk : StrK P f T E) (s : ByteArray) : Spec P f [.v (.c (.ptr 0 0))] [.bld T (.row 1 1 (bL s)), .row E 1] (.v (.c (.pv (.lit (.string s))))) [some (.bld T (.row 1 1 (bL s))), none] := fun γ S w vs hm hv => by
  obtain ⟨b, rfl, hb⟩ := ptr_arg hv
  obtain ⟨b', p, v, g1, g2, g3, g4, g5⟩ := hm.obj 0 _ rfl
  rw [g1] at hb; cases hb
  obtain ⟨k1, k2⟩ := row_str (hm.obj 1 _ rfl) g4
  have e0 : (fun x : Nat => ([some (AO.bld T (.row 1 1 (bL s))), none][x]?).join) = upd (fun x : Nat => [AO.bld T (.row 1 1 (bL s)), .row E 1][x]?) 1 none := by
    funext x
    match x with
    | 0 => rfl
    | 1 => rfl
    | x + 2 => simp [upd]
  have mk := hm.kill k1
  have hU : ∀ {w'}, Mem ⟨w, S, γ, []⟩ (upd (fun x : Nat => [AO.bld T (.row 1 1 (bL s)), .row E 1][x]?) 1 none) (fun x => [AO.bld T (.row 1 1 (bL s)), .row E 1].length ≤ x) (upd γ 1 .dead) S w' → ∃ v γ' S', Ending.returned (.string s) = .returned v ∧ Mem ⟨w, S, γ, []⟩ (fun x : Nat => ([some (AO.bld T (.row 1 1 (bL s))), none][x]?).join) (fun x => [some (AO.bld T (.row 1 1 (bL s))), none].length ≤ x) γ' S' w' ∧ RepV γ' S' w' v (.v (.c (.pv (.lit (.string s))))) := fun {w'} m => by
    refine ⟨.string s, upd γ 1 .dead, S, rfl, ?_, RepP.lit _ rfl⟩
    rw [e0]; exact m
  rcases Nat.eq_zero_or_pos s.size with h0 | h0
  · have hs : s = .empty := by
      apply ByteArray.ext
      exact Array.eq_empty_of_size_eq_zero h0
    rw [h0] at k2
    refine (hk.emp b p v _ w g2 k2).mono ?_
    rintro e1 w' ⟨rfl, hbl⟩
    rw [← hs]
    exact hU (mk.more hbl)
  · rcases k2.2 with ⟨k3, k4⟩ | ⟨g, cap, cur, k3, _⟩
    · omega
    · subst k3
      refine (hk.yes b g cap cur p T s w h0 g2 k2).mono ?_
      rintro e1 w' ⟨rfl, rfl⟩
      have hgb : (γ 1).bk = some g := by rw [k1]; rfl
      refine hU (mk.drew.frzn (g := g) (fun x hx => ?_) (hm.live 1 g hgb).2 (by unfold World.freeze; split <;> rfl) (by unfold World.freeze; split <;> rfl) (by unfold World.freeze; split <;> rfl) (freeze_size _ _ _) (fun k hk => freeze_other _ _ _ _ hk) (fun k => freeze_cell _ _ _ _))
      by_cases h1 : x = 1
      · subst h1; rw [upd_same] at hx; cases hx
      · rw [upd_ne _ _ h1] at hx; exact hm.dist x 1 h1 g hx hgb
end Go.Proofs.YtlkggpjdaaglmaaGreatDoor.am
end
section
namespace Go.Proofs.YtlkggpjdaaglmaaGreatDoor.am
open Go.Shelf Go.RowKit
variable {P : Program} {ρ : Ren}
set_option maxHeartbeats 1000000 in
set_option maxRecDepth 100000 in
theorem string_world (L : Lays.n169 P ρ) (X : Builder.Extra P ρ) {b g cap : Nat} {cur : Array Value} {p : Value} {t : TypeId} {s : ByteArray} {w : World} (h0 : 0 < s.size) (hbk : w.heap[b]? = some (.cells #[p, .slice (some ⟨g, 0, none⟩) s.size cap] t (0, 0))) (hown : w.ownsRow 0 (ρ.t 5) 1 (.slice (some ⟨g, 0, none⟩) s.size cap) s.size (Lib.strCells s)) :
    Calls P (ρ.f 169) #[.pointer (some ⟨b, 0, none⟩)] w fun e w' => e = .returned (.string s) ∧ w' = w.drew.freeze ⟨g, 0, none⟩ s.size := by
  have hx := hown.2
  rcases hx with ⟨k1, _⟩ | ⟨g', cap', cur, k1, _, k3, k4, k5, k6, k7⟩
  · cases k1
  cases k1
  have hl : s.data.toList ≠ [] := fun e => by
    have h1 : s.data.toList.length = 0 := by rw [e]; rfl
    rw [Array.length_toList] at h1
    have : s.data.size = s.size := rfl
    omega
  have hsl : s.data.toList.length = s.size := Array.length_toList
  have c1 : w.drew.cell? ⟨b, 1, none⟩ = some (.slice (some ⟨g, 0, none⟩) s.size cap) := cell_row (w := w.drew) hbk
  have hSD : (Builtin.unsafeSliceData_ #[(ρ.t 37)] (ρ.t 127) #[.slice (some ⟨g, 0, none⟩) s.size cap]).run P w.drew = .ok (.pointer (some ⟨g, 0, none⟩)) w.drew := Lib.run_unsafeSliceData_row _ _ _ _ _ _ (by omega)
  have hUS : (Builtin.unsafeString_ #[(ρ.t 127), (ρ.t 3)] (ρ.t 9) #[.pointer (some ⟨g, 0, none⟩), .int .i64 s.size]).run P w.drew = .ok (.string s) (w.drew.freeze ⟨g, 0, none⟩ s.size) := by
    have key := Lib.run_unsafeString_row w.drew (ρ.t 127) (ρ.t 3) (ρ.t 9) (ρ.t 5) L.t127 X.cellsByte g cur.size (by have hg : w.drew.heap[g]? = some (.cells cur (ρ.t 5) (0, 0)) := k3; simp [World.shape?, hg]) s.data.toList hl (by omega) (by unfold maxLen at k5; omega) (fun j x hj => hown.cells (g := g) rfl j (.int .u8 x.toNat) (by unfold Lib.strCells; rw [List.getElem?_map, hj]; rfl))
    rw [hsl] at key
    exact key
  have mixed := L.mixed
  have t72 := L.t72; have a72 := L.a72; have z72 := L.z72; have v72 := L.v72; have u72 := run_underlying L.t72
  have t70 := L.t70; have a70 := L.a70; have z70 := L.z70; have v70 := L.v70; have u70 := run_underlying L.t70
  have t37 := L.t37; have a37 := L.a37; have z37 := L.z37; have v37 := L.v37; have u37 := run_underlying L.t37
  have t127 := L.t127; have a127 := L.a127; have z127 := L.z127; have v127 := L.v127; have u127 := run_underlying L.t127
  have t3 := L.t3; have a3 := L.a3; have z3 := L.z3; have v3 := L.v3; have u3 := run_underlying L.t3
  have t9 := L.t9; have a9 := L.a9; have z9 := L.z9; have v9 := L.v9; have u9 := run_underlying L.t9
  have t5 := X.t5; have a5 := X.a5; have z5 := X.z5; have v5 := X.v5; have u5 := run_underlying X.t5
  clear k4 k5 k6 k7 hl h0
  go_enter L.f169, Body.n169_ntmps ρ
  go_wp2
  go_region_o
  all_goals (go_wp2; go_ret; exact ⟨rfl, rfl⟩)
end Go.Proofs.YtlkggpjdaaglmaaGreatDoor.am
namespace Go.Proofs.YtlkggpjdaaglmaaGreatDoor.am
open Go.ChangeShapes Go.WideShapes Go.ChangeAt Go.RowKit
set_option linter.unusedVariables false
set_option linter.unusedSimpArgs false
theorem td_bldr : td Tryz.prog 44 = some ⟨true, 2, 32, [.lit (.pointer none), .nilS], [(0, 1, false), (1, 1, false)], .struct⟩ := Eq.trans (by kernel_rfl) (Eq.refl _)
theorem td_bldrp : td Tryz.prog 41 = some ⟨false, 1, 8, [.lit (.pointer none)], [], (.pointer 44)⟩ := Eq.trans (by kernel_rfl) (Eq.refl _)
theorem td_u8s : td Tryz.prog 42 = some ⟨false, 1, 24, [.nilS], [], (.slice 5)⟩ := Eq.trans (by kernel_rfl) (Eq.refl _)
theorem td_u8 : td Tryz.prog 5 = some ⟨false, 1, 1, [.lit (.int .u8 0)], [], (.int .u8)⟩ := Eq.trans (by kernel_rfl) (Eq.refl _)
attribute [simp] td_bldr td_bldrp td_u8s td_u8
theorem copyK : CopyK Tryz.prog 39 44 where
  used := fun b w h => Any.Builder_copyCheck_used (ρ := Tryz.lays165_ren) { Tryz.lays165 with } Tryz.Builder_Extra_165.toX72 b w h
  fresh := fun b w h1 h2 h3 => Any.Builder_copyCheck_fresh (ρ := Tryz.lays165_ren) { Tryz.lays165 with } Tryz.Builder_Extra_165.toX72 b w h1 h2 h3
theorem strK : StrK Tryz.prog 19 44 5 where
  emp := fun b p v xs w hb ho => by
    rcases ho.2 with ⟨k1, _⟩ | ⟨g, cap, cur, k1, _, k3, k4, k5, k6, k7⟩
    · subst k1
      exact Any.Builder_String_nil Tryz.lays169 Tryz.Builder_Extra_169 w.heap.size b p w hb
    · subst k1
      by_cases h0 : cap = 0
      · subst h0
        exact Any.Builder_String_noroom Tryz.lays169 Tryz.Builder_Extra_169 w.heap.size b g p cur w (Nat.le_refl _) hb k3
      · exact Any.Builder_String_room Tryz.lays169 Tryz.Builder_Extra_169 w.heap.size b g cap p w h0 hb
  yes := fun b g cap cur p t s w h0 hb ho => string_world Tryz.lays169 Tryz.Builder_Extra_169 (cur := cur) h0 hb ho
set_option maxRecDepth 100000 in
set_option maxHeartbeats 4000000 in
theorem bcopy_row (l : List (List PV)) : Row Tryz.prog 39 [.v (.c (.ptr 0 0))] [.bld 44 (.row 1 1 l), .row 5 1] (.tup []) [some (.bld 44 (.row 1 1 l)), some (.row 5 1)] :=
  ⟨⟨_, Tryz.func39, rfl, rfl⟩, copy_spec copyK _ l⟩
abbrev bld (i : Nat) (s : ByteArray) : AO := .bld 44 (.row i 1 (bL s))
abbrev brw : AO := .row 5 1
set_option maxRecDepth 100000 in
set_option maxHeartbeats 4000000 in
theorem bstring_row (s : ByteArray) : Row Tryz.prog 19 [.v (.c (.ptr 0 0))] [bld 1 s, brw] (.v (.c (.pv (.lit (.string s))))) [some (bld 1 s), none] :=
  ⟨⟨_, Tryz.func19, rfl, rfl⟩, string_spec strK s⟩
set_option maxRecDepth 100000 in
set_option maxHeartbeats 4000000 in
theorem bwrite_row (a s : ByteArray) (h : a.size + s.size ≤ 140737488355328) : Row Tryz.prog 15 [.v (.c (.ptr 0 0)), .v (.c (.pv (.lit (.string s))))] [bld 1 a, brw] (.tup [.c (.pv (.lit (.int .i64 s.size))), .c (.pv (.lit .nilIface))]) [some (bld 2 (a ++ s)), none, some brw] := by
  have hl : (bL a).length + s.size ≤ 140737488355328 := by rw [bL_len]; exact h
  refine row_of Tryz.func15 rfl rfl (Nat.le_of_ble_eq_true rfl) ?_
  repeat' (first | refine aw_seq ?_ | refine aw_skip ?_ | refine aw_block ?_ | refine aw_exit ?_ | refine aw_cond rfl (fun _ => ?_) (fun hb => absurd hb (by decide)) | refine aw_cond rfl (fun hb => absurd hb (by decide)) (fun _ => ?_) | (refine aw_reg (fun K hK => ?_); simp -implicitDefEqProofs [hl]) | (refine aw_drw mixd (fun K hK => ?_); simp -implicitDefEqProofs [hl]) | refine hK _ ?_ | refine hK _ _ (by rfl) ?_ | (refine ar_call (cg (bcopy_row (bL a)) [0,1] ?_); simp -implicitDefEqProofs [hl]) | (refine ard_call (dg (bcopy_row (bL a)) [0,1] ?_); simp -implicitDefEqProofs [hl]) | fail)
  repeat (first | refine aw_seq ?_ | refine aw_skip ?_ | refine aw_block ?_ | refine aw_exit ?_ | refine aw_cond rfl (fun _ => ?_) (fun hb => absurd hb (by decide)) | refine aw_cond rfl (fun hb => absurd hb (by decide)) (fun _ => ?_) | (refine aw_reg (fun K hK => ?_); simp -implicitDefEqProofs [hl]; refine hK _ ?_) | (refine aw_drw mixd (fun K hK => ?_); simp -implicitDefEqProofs [hl]; refine hK _ _ (by rfl) ?_) | fail)
  refine aw_ret (fin_g [0, 1, 19] ?_); simp -implicitDefEqProofs [FinG, resV, resT, bL_append] <;> try rfl
end Go.Proofs.YtlkggpjdaaglmaaGreatDoor.am
end
section
namespace Go.Proofs.YtlkggpjdaaglmaaGreatDoor.am
open Go.ChangeShapes Go.WideShapes Go.ChangeAt Go.RowKit
set_option linter.unusedVariables false
set_option linter.unusedSimpArgs false
theorem td_err : td Tryz.prog 46 = some ⟨false, 1, 16, [.lit .nilIface], [], .interface⟩ := Eq.trans (by kernel_rfl) (Eq.refl _)
attribute [simp] td_err
theorem bL_byte (c : UInt8) : bL ⟨#[c]⟩ = [[.lit (.int .u8 c.toNat)]] := rfl
set_option maxRecDepth 100000 in
set_option maxHeartbeats 4000000 in
theorem bbyte_row (a : ByteArray) (c : UInt8) (h : a.size + 1 ≤ 140737488355328) : Row Tryz.prog 18 [.v (.c (.ptr 0 0)), .v (.c (.pv (.lit (.int .u8 c.toNat))))] [bld 1 a, brw] (.v (.c (.pv (.lit .nilIface)))) [some (bld 2 (a ++ ⟨#[c]⟩)), none, some brw] := by
  have hl : (bL a).length + 1 ≤ 140737488355328 := by rw [bL_len]; exact h
  refine row_of Tryz.func18 rfl rfl (Nat.le_of_ble_eq_true rfl) ?_
  repeat' (first | refine aw_seq ?_ | refine aw_skip ?_ | refine aw_block ?_ | refine aw_exit ?_ | refine aw_cond rfl (fun _ => ?_) (fun hb => absurd hb (by decide)) | refine aw_cond rfl (fun hb => absurd hb (by decide)) (fun _ => ?_) | (refine aw_reg (fun K hK => ?_); simp -implicitDefEqProofs [hl]) | (refine aw_drw mixd (fun K hK => ?_); simp -implicitDefEqProofs [hl]) | refine hK _ ?_ | refine hK _ _ (by rfl) ?_ | (refine ar_call (cg (bcopy_row (bL a)) [0,1] ?_); simp -implicitDefEqProofs [hl]) | (refine ard_call (dg (bcopy_row (bL a)) [0,1] ?_); simp -implicitDefEqProofs [hl]) | fail)
  repeat (first | refine aw_seq ?_ | refine aw_skip ?_ | refine aw_block ?_ | refine aw_exit ?_ | refine aw_cond rfl (fun _ => ?_) (fun hb => absurd hb (by decide)) | refine aw_cond rfl (fun hb => absurd hb (by decide)) (fun _ => ?_) | (refine aw_reg (fun K hK => ?_); simp -implicitDefEqProofs [hl]; refine hK _ ?_) | (refine aw_drw mixd (fun K hK => ?_); simp -implicitDefEqProofs [hl]; refine hK _ _ (by rfl) ?_) | fail)
  refine aw_ret (fin_g [0, 1, 19] ?_); simp -implicitDefEqProofs [FinG, resV, resT, bL_append, bL_byte] <;> try rfl
end Go.Proofs.YtlkggpjdaaglmaaGreatDoor.am
end
section
namespace Go.Proofs.YtlkggpjdaaglmaaGreatDoor.am
open Go.ChangeShapes Go.WideShapes Go.ChangeAt Go.RowKit
open vt
set_option linter.unusedVariables false
set_option linter.unusedSimpArgs false
def txt (Ws : List (List ByteArray)) : ByteArray := Ws.foldl (fun a W => a ++ (J W ++ ⟨#[10]⟩)) ⟨#[]⟩
theorem txt_snoc (Ws : List (List ByteArray)) (W : List ByteArray) : txt (Ws ++ [W]) = txt Ws ++ (J W ++ ⟨#[10]⟩) := by
  unfold txt; rw [List.foldl_append]; rfl
theorem txt_take {Ws : List (List ByteArray)} {k : Nat} {W : List ByteArray} (h : Ws[k]? = some W) : txt (Ws.take (k + 1)) = txt (Ws.take k) ++ (J W ++ ⟨#[10]⟩) := by
  rw [List.take_add_one, h]
  exact txt_snoc _ _
theorem txt_size {Ws : List (List ByteArray)} (h : ∀ W ∈ Ws, (J W).size ≤ 1000000000) : ∀ k, k ≤ Ws.length → (txt (Ws.take k)).size ≤ k * 1000000001
  | 0, _ => by rw [List.take_zero]; exact Nat.le_refl _
  | k + 1, hk => by
    have hW := List.getElem?_eq_getElem (l := Ws) (i := k) (by omega)
    rw [txt_take hW, ByteArray.size_append, ByteArray.size_append]
    have h1 := txt_size h k (by omega)
    have h2 := h _ (List.getElem_mem (l := Ws) (n := k) (by omega))
    have : (⟨#[10]⟩ : ByteArray).size = 1 := rfl
    omega
set_option maxRecDepth 100000 in
set_option maxHeartbeats 4000000 in
theorem ptext_row (LL : List (Nat × Array Value)) (hLL : LibN LL) (x : Lab) (l : List VT) (Ws : List (List ByteArray)) (hl : l.length = Ws.length) (hn : l.length ≤ 1000) (hw : ∀ (i : Nat) t W, l[i]? = some t → Ws[i]? = some W → WD t W ∧ 3 * W.length ≤ 1000000 ∧ (J W).size ≤ 1000000000) : Row Tryz.prog 7 [vT (.mk x l)] [.lib LL] (vS (txt Ws)) [some (.lib LL)] := by
  have hsz := txt_size (Ws := Ws) (fun W hW => by
    obtain ⟨i, hi⟩ := List.mem_iff_getElem?.1 hW
    have hlt := (List.getElem?_eq_some_iff.1 hi).1
    exact (hw i _ W (List.getElem?_eq_getElem (by omega)) hi).2.2)
  have h0 : txt [] = ⟨#[]⟩ := rfl
  have h1 : bL ⟨#[]⟩ = [] := rfl
  refine row_of Tryz.func7 rfl rfl (Nat.le_of_ble_eq_true rfl) ?_
  repeat (first | refine aw_seq ?_ | refine aw_skip ?_ | refine aw_block ?_ | refine aw_exit ?_ | refine aw_cond rfl (fun _ => ?_) (fun hb => absurd hb (by decide)) | refine aw_cond rfl (fun hb => absurd hb (by decide)) (fun _ => ?_) | (refine aw_reg (fun K hK => ?_); simp -implicitDefEqProofs; refine hK _ ?_) | (refine aw_drw mixd (fun K hK => ?_); simp -implicitDefEqProofs; refine hK _ _ (by rfl) ?_) | fail)
  refine aw_nilb 3 44 5 rfl (by simp) ?_
  simp [St.nilb]
  refine aw_lp (ι := Nat) (fun k => mkSt [(3, .v (.c (.ptr 1 0))), (7, vLs l), (8, vI (l.length : Nat)), (9, vI (k : Nat))] [some (.lib LL), some (bld 2 (txt (Ws.take k))), some brw]) (fun k => k ≤ l.length) (fun k => l.length - k) 0 (Nat.zero_le _) (cov_intro [0, 3, 8] (by simp -implicitDefEqProofs [h0, h1]) (by simp -implicitDefEqProofs [h0, h1]) (by decide) rfl (by simp)) (fun Z hI k hk => ?_)
  by_cases hkl : k < l.length; rotate_left
  · have hke : k = Ws.length := by omega
    subst hke
    have v3 := bstring_row (txt Ws)
    have hlt : ¬ Ws.length < l.length := by omega
    rw [List.take_length]
    repeat' (first | refine aw_seq ?_ | refine aw_skip ?_ | refine aw_block ?_ | refine aw_exit ?_ | refine aw_cond rfl (fun _ => ?_) (fun hb => absurd hb (by decide)) | refine aw_cond rfl (fun hb => absurd hb (by decide)) (fun _ => ?_) | (refine aw_reg (fun K hK => ?_); simp -implicitDefEqProofs [hlt]) | (refine aw_drw mixd (fun K hK => ?_); simp -implicitDefEqProofs [hlt]) | refine hK _ ?_ | refine hK _ _ (by rfl) ?_ | (refine ar_call (cg v3 [1,2] ?_); simp -implicitDefEqProofs [hlt]) | (refine ard_call (dg v3 [1,2] ?_); simp -implicitDefEqProofs [hlt]) | fail)
    refine aw_ret (fin_box ?_); simp -implicitDefEqProofs [FinB, resV, resT] <;> try rfl
  obtain ⟨⟨ux, ul⟩, hu⟩ : ∃ a, l[k]? = some a := ⟨_, List.getElem?_eq_getElem hkl⟩
  have hu' := (List.getElem?_eq_some_iff.1 hu).2
  obtain ⟨W, hW⟩ : ∃ a, Ws[k]? = some a := ⟨_, List.getElem?_eq_getElem (by omega)⟩
  obtain ⟨g1, g2, g3⟩ := hw k _ W hu hW
  have tr := text_row LL hLL g1 g2 g3
  have hz := hsz k (by omega)
  have e3 := txt_take hW
  have w2 : IntKind.i64.wrap ((k : Nat) + 1 : Int) = (k : Nat) + 1 := i64i _ (by omega) (by omega)
  obtain ⟨T1, hT⟩ : ∃ T, txt (Ws.take (k + 1)) = T := ⟨_, rfl⟩
  rw [hT] at e3
  have v1 := bwrite_row (txt (Ws.take k)) (J W) (by omega)
  have v2 : Row Tryz.prog 18 [.v (.c (.ptr 0 0)), .v (.c (.pv (.lit (.int .u8 10))))] [bld 1 (txt (Ws.take k) ++ J W), brw] (.v (.c (.pv (.lit .nilIface)))) [some (bld 2 (txt (Ws.take k) ++ J W ++ ⟨#[10]⟩)), none, some brw] := bbyte_row (txt (Ws.take k) ++ J W) 10 (by rw [ByteArray.size_append]; omega)
  rw [ByteArray.append_assoc, ← e3] at v2
  repeat' (first | refine aw_seq ?_ | refine aw_skip ?_ | refine aw_block ?_ | refine aw_exit ?_ | refine aw_cond rfl (fun _ => ?_) (fun hb => absurd hb (by decide)) | refine aw_cond rfl (fun hb => absurd hb (by decide)) (fun _ => ?_) | (refine aw_reg (fun K hK => ?_); simp -implicitDefEqProofs [hkl, hu, hu', w2]) | (refine aw_drw mixd (fun K hK => ?_); simp -implicitDefEqProofs [hkl, hu, hu', w2]) | refine hK _ ?_ | refine hK _ _ (by rfl) ?_ | (refine ar_call (cb tr 0 ?_); simp -implicitDefEqProofs [hkl, hu, hu', w2]) | (refine ard_call (db tr 0 ?_); simp -implicitDefEqProofs [hkl, hu, hu', w2]) | (refine ar_call (cg v1 [1,2] ?_); simp -implicitDefEqProofs [hkl, hu, hu', w2]) | (refine ard_call (dg v1 [1,2] ?_); simp -implicitDefEqProofs [hkl, hu, hu', w2]) | (refine ar_call (cg v2 [1,17] ?_); simp -implicitDefEqProofs [hkl, hu, hu', w2]) | (refine ard_call (dg v2 [1,17] ?_); simp -implicitDefEqProofs [hkl, hu, hu', w2]) | fail)
  refine ⟨k + 1, by omega, (by dsimp only; omega), ?_⟩; rw [hI]; exact cov_intro [0, 1, 25] (by simp -implicitDefEqProofs [hT]) (by simp -implicitDefEqProofs [hT]) (by decide) rfl (by simp)
end Go.Proofs.YtlkggpjdaaglmaaGreatDoor.am
end
section
namespace Go.Proofs.YtlkggpjdaaglmaaGreatDoor.am
open vt
set_option linter.unusedVariables false
def TkS (ts : List Tok) : Prop := ∀ j, (nxt ts j).s.size ≤ 8192 ∧ -9223372036854775808 ≤ (nxt ts j).n ∧ (nxt ts j).n ≤ 9223372036854775807
def EX (t : VT) : Prop := ∃ W, WE t W
def TX (t : VT) : Prop := ∃ W, WT t W
def SX (t : VT) : Prop := ∃ W, WS t W
def FX (t : VT) : Prop := ∃ W, WF t W
def DX (t : VT) : Prop := ∃ W, WD t W
theorem all_words {R : VT → List ByteArray → Prop} {l : List VT} (h : ∀ d ∈ l, ∃ W, R d W) : ∃ Ws : List (List ByteArray), l.length = Ws.length ∧ ∀ (i : Nat) t W, l[i]? = some t → Ws[i]? = some W → R t W := by
  induction l with
  | nil => exact ⟨[], rfl, fun i t W h => by simp at h⟩
  | cons d l ih =>
    obtain ⟨W, hW⟩ := h d (.head _)
    obtain ⟨Ws, h1, h2⟩ := ih (fun e he => h e (.tail _ he))
    refine ⟨W :: Ws, by simp [h1], fun i t V a b => ?_⟩
    cases i with
    | zero => simp at a b; subst a b; exact hW
    | succ i => simp at a b; exact h2 i t V a b
section
variable {ts : List Tok}
theorem opK_rng {x : Tok} (h : (opK x).2 ≤ 5) : 1 ≤ (opK x).1 ∧ (opK x).1 ≤ 13 := by
  obtain ⟨k, n, s, f, t⟩ := x
  unfold opK at h ⊢
  by_cases c : k = 4
  · rw [if_pos c] at h ⊢
    dsimp only at h ⊢
    clear c
    by_cases e0 : s = (⟨#[124, 124]⟩ : ByteArray)
    · subst e0; exact ⟨by decide, by decide⟩
    by_cases e1 : s = (⟨#[38, 38]⟩ : ByteArray)
    · subst e1; exact ⟨by decide, by decide⟩
    by_cases e2 : s = (⟨#[61, 61]⟩ : ByteArray)
    · subst e2; exact ⟨by decide, by decide⟩
    by_cases e3 : s = (⟨#[33, 61]⟩ : ByteArray)
    · subst e3; exact ⟨by decide, by decide⟩
    by_cases e4 : s = (⟨#[60]⟩ : ByteArray)
    · subst e4; exact ⟨by decide, by decide⟩
    by_cases e5 : s = (⟨#[60, 61]⟩ : ByteArray)
    · subst e5; exact ⟨by decide, by decide⟩
    by_cases e6 : s = (⟨#[62]⟩ : ByteArray)
    · subst e6; exact ⟨by decide, by decide⟩
    by_cases e7 : s = (⟨#[62, 61]⟩ : ByteArray)
    · subst e7; exact ⟨by decide, by decide⟩
    by_cases e8 : s = (⟨#[43]⟩ : ByteArray)
    · subst e8; exact ⟨by decide, by decide⟩
    by_cases e9 : s = (⟨#[45]⟩ : ByteArray)
    · subst e9; exact ⟨by decide, by decide⟩
    by_cases e10 : s = (⟨#[42]⟩ : ByteArray)
    · subst e10; exact ⟨by decide, by decide⟩
    by_cases e11 : s = (⟨#[47]⟩ : ByteArray)
    · subst e11; exact ⟨by decide, by decide⟩
    by_cases e12 : s = (⟨#[37]⟩ : ByteArray)
    · subst e12; exact ⟨by decide, by decide⟩
    simp [opS, e0, e1, e2, e3, e4, e5, e6, e7, e8, e9, e10, e11, e12] at h
  · rw [if_neg c] at h; exact absurd h (by decide)
theorem lpL_ex {P : Nat → Got} {l a : Nat} (hl : l ≤ 5) (hP : ∀ i, (P i).2.2 = 0 → EX (P i).1) : ∀ (m : Nat) (t : Bool) (x : Got), (x.2.2 = 0 → EX x.1) → (lpL ts P l a m t x).2.2 = 0 → EX (lpL ts P l a m t x).1
  | 0, t, x, hx, h => hx h
  | m + 1, t, x, hx, h => by
    unfold lpL at h ⊢
    split
    · rename_i c; rw [if_pos c] at h; exact hx h
    rename_i c; rw [if_neg c] at h
    have c : x.2.2 = 0 := by simpa using c
    split
    · rename_i c2; rw [if_pos c2] at h; exact hx h
    rename_i c2; rw [if_neg c2] at h
    split
    · rename_i c3; rw [if_pos c3] at h; exact hP _ h
    rename_i c3; rw [if_neg c3] at h
    have c3 : (P (x.2.1 + 1)).2.2 = 0 := by simpa using c3
    refine lpL_ex hl hP m true _ (fun _ => ?_) h
    have ho : (opK (nxt ts x.2.1)).2 = l := by
      by_cases e : (opK (nxt ts x.2.1)).2 = l
      · exact e
      · exact absurd (.inl e) c2
    have hr := opK_rng (x := nxt ts x.2.1) (by omega)
    obtain ⟨A, hA⟩ := hx c
    obtain ⟨C, hC⟩ := hP _ c3
    obtain ⟨⟨ax, al⟩, x2⟩ := x
    dsimp only at *
    generalize P (x2.1 + 1) = y at hC ⊢
    obtain ⟨⟨cx, cl⟩, y2⟩ := y
    exact ⟨_, .bin _ ax cx al cl A C rfl hr.1 hr.2 hA hC⟩
theorem lpP_ex {E : Nat → Got} {a : Nat} (hT : TkS ts) (hE : ∀ i, (E i).2.2 = 0 → EX (E i).1) : ∀ (m : Nat) (x : Got), (x.2.2 = 0 → EX x.1) → (lpP ts E a m x).2.2 = 0 → EX (lpP ts E a m x).1
  | 0, x, hx, h => hx h
  | m + 1, x, hx, h => by
    unfold lpP at h ⊢
    split
    · rename_i c; rw [if_pos c] at h; exact hx h
    rename_i c; rw [if_neg c] at h
    have c : x.2.2 = 0 := by simpa using c
    obtain ⟨A, hA⟩ := hx c
    obtain ⟨⟨ax, al⟩, x2⟩ := x
    dsimp only at *
    split
    · rename_i c2; rw [if_pos c2] at h
      split
      · rename_i c3; rw [if_pos c3] at h; exact hE _ h
      rename_i c3; rw [if_neg c3] at h
      have c3 : (E (x2.1 + 1)).2.2 = 0 := by simpa using c3
      split
      · rename_i c4; rw [if_pos c4] at h; simp [bad7] at h
      rename_i c4; rw [if_neg c4] at h
      refine lpP_ex hT hE m _ (fun _ => ?_) h
      obtain ⟨C, hC⟩ := hE _ c3
      generalize E (x2.1 + 1) = y at hC ⊢
      obtain ⟨⟨cx, cl⟩, y2⟩ := y
      exact ⟨_, .idx _ ax cx al cl A C rfl hA hC⟩
    rename_i c2; rw [if_neg c2] at h
    split
    · rename_i c3; rw [if_pos c3] at h
      split
      · rename_i c4; rw [if_pos c4] at h; simp [bad7] at h
      rename_i c4; rw [if_neg c4] at h
      exact lpP_ex hT hE m _ (fun _ => ⟨_, .fld _ ax al A rfl (hT _).1 hA⟩) h
    · rename_i c3; rw [if_neg c3] at h
      exact ⟨A, hA⟩
theorem lpC_all {E : Nat → Got} {Q : VT → Prop} (hE : ∀ i, (E i).2.2 = 0 → Q (E i).1) : ∀ (m i : Nat) (acc : List VT), (∀ d ∈ acc, Q d) → (lpC ts E m i acc).2.2 = 0 → ∀ d ∈ (lpC ts E m i acc).1, Q d
  | 0, i, acc, ha, h => by simp [lpC] at h
  | m + 1, i, acc, ha, h => by
    have app : (E i).2.2 = 0 → ∀ d ∈ acc ++ [(E i).1], Q d := fun c d hd => by
      rcases List.mem_append.1 hd with hd | hd
      · exact ha d hd
      · rw [List.mem_singleton.1 hd]; exact hE i c
    unfold lpC at h ⊢
    split
    · rename_i c; rw [if_pos c] at h; exact absurd h c
    rename_i c; rw [if_neg c] at h
    have c : (E i).2.2 = 0 := by simpa using c
    split
    · exact app c
    · rename_i c2; rw [if_neg c2] at h
      exact lpC_all hE m _ _ (app c) h
theorem cloG_all {E : Nat → Got} {Q : VT → Prop} (hE : ∀ i, (E i).2.2 = 0 → Q (E i).1) {o : Nat} {few : Bool} {fs ls : ByteArray} (h : (cloG ts E o few fs ls).2.2 = 0) : ∀ d ∈ (cloG ts E o few fs ls).1, Q d := by
  unfold cloG at h ⊢
  split
  · intro d hd; cases hd
  rename_i c; rw [if_neg c] at h
  split
  · intro d hd; cases hd
  rename_i c2; rw [if_neg c2] at h
  split
  · rename_i c3; rw [if_pos c3] at h; exact absurd h c3
  rename_i c3; rw [if_neg c3] at h
  have c3 : (lpC ts E (ts.length + 1) (o + 1) []).2.2 = 0 := by simpa using c3
  split
  · rename_i c4; rw [if_pos c4] at h; exact absurd (show (6 : Int) = 0 from h) (by decide)
  · exact lpC_all hE _ _ _ (fun d hd => by cases hd) c3
theorem fin_ex {i : Nat} {k : Int} {s : ByteArray} {c : List VT × Nat × Int} (hk : k = 14 ∨ k = 15 ∨ k = 16 ∨ k = 17) (hs : s.size ≤ 8192) (hc : c.2.2 = 0 → ∀ d ∈ c.1, EX d) (h : (finC ts i k s c).2.2 = 0) : EX (finC ts i k s c).1 := by
  unfold finC at h ⊢
  split
  · rename_i c1; rw [if_pos c1] at h; exact absurd h c1
  rename_i c1
  have c1 : c.2.2 = 0 := by simpa using c1
  obtain ⟨Ws, h1, h2⟩ := all_words (R := WE) (hc c1)
  rcases hk with rfl | rfl | rfl | rfl
  · exact ⟨_, .lst _ _ Ws rfl h1 h2⟩
  · exact ⟨_, .mak _ _ Ws rfl hs h1 h2⟩
  · exact ⟨_, .cal _ _ Ws rfl hs h1 h2⟩
  · exact ⟨_, .ext _ _ Ws rfl hs h1 h2⟩
theorem calG_ex {E : Nat → Got} (hT : TkS ts) (hE : ∀ i, (E i).2.2 = 0 → EX (E i).1) {i : Nat} (h : (calG ts E i).2.2 = 0) : EX (calG ts E i).1 := by
  unfold calG at h ⊢
  split
  · rename_i c; rw [if_pos c] at h; exact fin_ex (.inr (.inr (.inl rfl))) (hT _).1 (cloG_all hE) h
  rename_i c; rw [if_neg c] at h
  split
  · rename_i c; rw [if_pos c] at h; exact fin_ex (.inl rfl) (by decide) (cloG_all hE) h
  rename_i c; rw [if_neg c] at h
  split
  · rename_i c; rw [if_pos c] at h
    split
    · rename_i c; rw [if_pos c] at h; simp [bad7] at h
    · rename_i c; rw [if_neg c] at h; exact fin_ex (.inr (.inr (.inr rfl))) (hT _).1 (cloG_all hE) h
  rename_i c; rw [if_neg c] at h
  split
  · rename_i c; rw [if_pos c] at h
    split
    · rename_i c; rw [if_pos c] at h; simp [bad7] at h
    · rename_i c; rw [if_neg c] at h; exact fin_ex (.inr (.inl rfl)) (hT _).1 (cloG_all hE) h
  · rename_i c; rw [if_neg c] at h; simp [bad7] at h
theorem atoG_ex {E : Nat → Got} (hT : TkS ts) (hE : ∀ i, (E i).2.2 = 0 → EX (E i).1) {i : Nat} (h : (atoG ts E i).2.2 = 0) : EX (atoG ts E i).1 := by
  unfold atoG at h ⊢
  split
  · exact ⟨_, .num _ rfl (hT _).2.1 (hT _).2.2⟩
  rename_i c; rw [if_neg c] at h
  split
  · exact ⟨_, .tru _ rfl rfl⟩
  rename_i c; rw [if_neg c] at h
  split
  · exact ⟨_, .fls _ rfl rfl⟩
  rename_i c; rw [if_neg c] at h
  split
  · exact ⟨_, .read _ rfl⟩
  rename_i c; rw [if_neg c] at h
  split
  · exact ⟨_, .nam _ rfl (hT _).1⟩
  rename_i c; rw [if_neg c] at h
  split
  · rename_i c; rw [if_pos c] at h
    split
    · rename_i c; rw [if_pos c] at h; exact hE _ h
    rename_i c; rw [if_neg c] at h
    split
    · rename_i c; rw [if_pos c] at h; simp [bad7] at h
    · have c : (E (i + 1)).2.2 = 0 := by simpa using c
      exact hE _ c
  · rename_i c; rw [if_neg c] at h; exact calG_ex hT hE h
theorem pG_ex (hT : TkS ts) : ∀ (n w i : Nat), (pG ts n w i).2.2 = 0 → EX (pG ts n w i).1
  | 0, w, i, h => by simp [pG, bad7] at h
  | n + 1, w, i, h => by
    have ih := pG_ex hT n
    unfold pG bG at h ⊢
    split
    · rename_i c; rw [if_pos c] at h; exact lpL_ex c (ih (w + 1)) _ _ _ (ih (w + 1) i) h
    rename_i c; rw [if_neg c] at h
    split
    · rename_i c; rw [if_pos c] at h
      split
      · rename_i c; rw [if_pos c] at h; exact ih _ _ h
      rename_i c0; rw [if_neg c0] at h
      split
      · rename_i c; rw [if_pos c] at h; exact ih _ _ h
      rename_i c; rw [if_neg c] at h
      have c : (pG ts n 6 (i + 1)).2.2 = 0 := by simpa using c
      obtain ⟨A, hA⟩ := ih _ _ c
      generalize pG ts n 6 (i + 1) = y at hA ⊢
      obtain ⟨⟨ax, al⟩, y2⟩ := y
      have hu : unN ts i = 1 ∨ unN ts i = 2 := by
        unfold unN at c0 ⊢
        split
        · exact .inr rfl
        · split
          · exact .inl rfl
          · rename_i g1 g2; rw [if_neg g1, if_neg g2] at c0; exact absurd rfl c0
      rcases hu with hu | hu
      · exact ⟨_, .neg _ ax al A rfl hu hA⟩
      · exact ⟨_, .nt _ ax al A rfl hu hA⟩
    rename_i c; rw [if_neg c] at h
    split
    · rename_i c; rw [if_pos c] at h; exact lpP_ex hT (ih 1) _ _ (ih 8 i) h
    · rename_i c; rw [if_neg c] at h; exact atoG_ex hT (ih 1) h
theorem tyG_ex (hT : TkS ts) : ∀ (n i : Nat), (tyG ts n i).2.2 = 0 → TX (tyG ts n i).1
  | 0, i, h => by simp [tyG] at h
  | n + 1, i, h => by
    have ih := tyG_ex hT n (i + 3)
    unfold tyG at h ⊢
    split
    · exact ⟨_, .int _ rfl⟩
    rename_i c; rw [if_neg c] at h
    split
    · exact ⟨_, .bool _ rfl⟩
    rename_i c; rw [if_neg c] at h
    split
    · rename_i c; rw [if_pos c] at h
      split
      · rename_i c; rw [if_pos c] at h
        split
        · rename_i c; rw [if_pos c] at h
          split
          · rename_i c
            obtain ⟨A, hA⟩ := ih c
            generalize tyG ts n (i + 3) = y at hA ⊢
            obtain ⟨⟨ax, al⟩, y2⟩ := y
            exact ⟨_, .arr _ ax al A rfl (hT _).2.1 (hT _).2.2 hA⟩
          · rename_i c; rw [if_neg c] at h; exact absurd h c
        · rename_i c; rw [if_neg c] at h; exact absurd (show (6 : Int) = 0 from h) (by decide)
      · rename_i c; rw [if_neg c] at h; exact absurd (show (6 : Int) = 0 from h) (by decide)
    · rename_i c; rw [if_neg c] at h
      split
      · exact ⟨_, .rec' _ rfl (hT _).1⟩
      · rename_i c; rw [if_neg c] at h; exact absurd (show (6 : Int) = 0 from h) (by decide)
end
end Go.Proofs.YtlkggpjdaaglmaaGreatDoor.am
end
section
namespace Go.Proofs.YtlkggpjdaaglmaaGreatDoor.am
open vt
set_option linter.unusedVariables false
def FitI (R : Nat → Nat → Got) (e : VT → Prop) : List It → List VT → Prop
  | [], qs => qs = []
  | .sgn _ :: l, qs => FitI R e l qs
  | .nam :: l, qs => FitI R e l qs
  | .sub w :: l, qs => ∃ q r, qs = q :: r ∧ (∃ j, (R w j).2.2 = 0 ∧ q = (R w j).1) ∧ FitI R e l r
  | .els :: l, qs => ∃ q r, qs = q :: r ∧ ((∃ j, (R 2 j).2.2 = 0 ∧ q = (R 2 j).1) ∨ e q) ∧ FitI R e l r
section
variable {ts : List Tok}
theorem it_form {R : Nat → Nat → Got} {a : Nat} {k n : Int} : ∀ (l : List It) (tz : Nat) (s : ByteArray) (ps : List VT), (itH ts R a k n l tz s ps).2.2 = 0 → ∃ b s' qs, (itH ts R a k n l tz s ps).1 = (mk7 ts a b k n s' (ps ++ qs)).1 ∧ (s' = s ∨ ∃ j, s' = (nxt ts j).s) ∧ FitI R (fun q => ∃ j, q = emB ts j) l qs
  | [], tz, s, ps, h => ⟨tz, s, [], by rw [itH, List.append_nil], .inl rfl, rfl⟩
  | .sgn x :: l, tz, s, ps, h => by
    rw [itG_sgn] at h ⊢
    by_cases c : isK x (nxt ts tz) = true
    · rw [if_pos c] at h ⊢
      exact it_form l _ _ _ h
    · rw [if_neg c] at h; simp [bad7] at h
  | .nam :: l, tz, s, ps, h => by
    rw [itG_nam] at h ⊢
    by_cases c : (nxt ts tz).k = 1
    · rw [if_pos c] at h ⊢
      obtain ⟨b, s', qs, e1, e2, e3⟩ := it_form l _ _ _ h
      exact ⟨b, s', qs, e1, .inr (e2.elim (fun h => ⟨tz, h⟩) (fun h => h)), e3⟩
    · rw [if_neg c] at h; simp [bad7] at h
  | .sub w :: l, tz, s, ps, h => by
    rw [itG_sub] at h ⊢
    by_cases c : (R w tz).2.2 = 0
    · rw [if_pos c] at h ⊢
      obtain ⟨b, s', qs, e1, e2, e3⟩ := it_form l _ _ _ h
      exact ⟨b, s', (R w tz).1 :: qs, by rw [e1, List.append_assoc]; rfl, e2, _, _, rfl, ⟨tz, c, rfl⟩, e3⟩
    · rw [if_neg c] at h; exact absurd h c
  | .els :: l, tz, s, ps, h => by
    rw [itG_els] at h ⊢
    by_cases c : isK wElse (nxt ts tz) = true
    · rw [if_pos c] at h ⊢
      by_cases c2 : (R 2 (tz + 1)).2.2 = 0
      · rw [if_pos c2] at h ⊢
        obtain ⟨b, s', qs, e1, e2, e3⟩ := it_form l _ _ _ h
        exact ⟨b, s', (R 2 (tz + 1)).1 :: qs, by rw [e1, List.append_assoc]; rfl, e2, _, _, rfl, .inl ⟨tz + 1, c2, rfl⟩, e3⟩
      · rw [if_neg c2] at h; exact absurd h c2
    · rw [if_neg c] at h ⊢
      obtain ⟨b, s', qs, e1, e2, e3⟩ := it_form l _ _ _ h
      exact ⟨b, s', emB ts tz :: qs, by rw [e1, List.append_assoc]; rfl, e2, _, _, rfl, .inr ⟨tz, rfl⟩, e3⟩
def BX (t : VT) : Prop := t.lab.k = 29 ∧ SX t
theorem lpB_bx {S : Nat → Got} (hS : ∀ i, (S i).2.2 = 0 → SX (S i).1) (a : Nat) : ∀ (m tz : Nat) (acc : List VT), (∀ d ∈ acc, SX d) → (lpB ts S a m tz acc).2.2 = 0 → BX (lpB ts S a m tz acc).1
  | 0, tz, acc, ha, h => by simp [lpB, bad7] at h
  | m + 1, tz, acc, ha, h => by
    rw [lpB] at h ⊢
    by_cases h2 : isK sKet (nxt ts tz) = true
    · rw [if_pos h2]
      obtain ⟨Ws, h1, h2⟩ := all_words (R := WS) ha
      exact ⟨rfl, _, .blk _ _ Ws rfl h1 h2⟩
    · rw [if_neg h2] at h ⊢
      by_cases h3 : (S tz).2.2 = 0
      · rw [if_pos h3] at h ⊢
        refine lpB_bx hS a m _ _ (fun d hd => ?_) h
        rcases List.mem_append.1 hd with hd | hd
        · exact ha d hd
        · rw [List.mem_singleton.1 hd]; exact hS tz h3
      · rw [if_neg h3] at h; exact absurd h h3
theorem blG_bx {S : Nat → Got} (hS : ∀ i, (S i).2.2 = 0 → SX (S i).1) {i : Nat} (h : (blG ts S i).2.2 = 0) : BX (blG ts S i).1 := by
  unfold blG at h ⊢
  by_cases c : isK sBra (nxt ts i) = true
  · rw [if_pos c] at h ⊢; exact lpB_bx hS i _ _ _ (fun d hd => by cases hd) h
  · rw [if_neg c] at h; simp [bad7] at h
theorem RR_ex (hT : TkS ts) {S : Nat → Got} (hS : ∀ i, (S i).2.2 = 0 → SX (S i).1) (w j : Nat) (h : (RR ts S w j).2.2 = 0) : (w = 0 → EX (RR ts S w j).1) ∧ (w = 1 → TX (RR ts S w j).1) ∧ (w = 2 → BX (RR ts S w j).1) := by
  unfold RR at h ⊢
  by_cases h0 : w = 0
  · rw [if_pos h0] at h ⊢
    exact ⟨fun _ => pG_ex hT _ _ _ h, fun e => by omega, fun e => by omega⟩
  · rw [if_neg h0] at h ⊢
    by_cases h1 : w = 1
    · rw [if_pos h1] at h ⊢
      exact ⟨fun e => absurd e h0, fun _ => tyG_ex hT _ _ h, fun e => by omega⟩
    · rw [if_neg h1] at h ⊢
      exact ⟨fun e => absurd e h0, fun e => absurd e h1, fun _ => blG_bx hS h⟩
theorem sG_sx (hT : TkS ts) : ∀ (n i : Nat), (sG ts n i).2.2 = 0 → SX (sG ts n i).1
  | 0, i, h => by simp [sG, bad7] at h
  | n + 1, i, h => by
    have ih := sG_sx hT n
    have R0 := fun j h => (RR_ex hT ih 0 j h).1 rfl
    have R1 := fun j h => (RR_ex hT ih 1 j h).2.1 rfl
    have R2 := fun j h => (RR_ex hT ih 2 j h).2.2 rfl
    rw [sG] at h ⊢
    by_cases c : isK sBra (nxt ts i) = true
    · rw [if_pos c] at h ⊢; exact (blG_bx ih h).2
    rw [if_neg c] at h ⊢
    obtain ⟨b, s', qs, e1, e2, e3⟩ := it_form _ _ _ _ h
    have hs : s'.size ≤ 8192 := by
      rcases e2 with rfl | ⟨j, rfl⟩
      · decide
      · exact (hT j).1
    rw [e1]
    clear e1 e2 h
    unfold frmG at e3 ⊢
    split at e3
    · rename_i g; rw [if_pos g]
      split at e3
      · rename_i g; rw [if_pos g]
        obtain ⟨q, r, rfl, ⟨j, j1, rfl⟩, rfl⟩ := e3
        obtain ⟨A, hA⟩ := R1 j j1
        generalize RR ts (sG ts n) 1 j = y at hA ⊢
        obtain ⟨⟨ax, al⟩, y2⟩ := y
        exact ⟨_, .new _ ax al A rfl hs hA⟩
      · rename_i g; rw [if_neg g]
        obtain ⟨q, r, rfl, ⟨j, j1, rfl⟩, rfl⟩ := e3
        obtain ⟨A, hA⟩ := R0 j j1
        generalize RR ts (sG ts n) 0 j = y at hA ⊢
        obtain ⟨⟨ax, al⟩, y2⟩ := y
        exact ⟨_, .lt _ ax al A rfl hs hA⟩
    rename_i g; rw [if_neg g]
    split at e3
    · rename_i g; rw [if_pos g]
      obtain ⟨q, r, rfl, ⟨j, j1, rfl⟩, q2, r2, rfl, ⟨j2, j3, rfl⟩, q3, r3, rfl, h3, rfl⟩ := e3
      obtain ⟨A, hA⟩ := R0 j j1
      obtain ⟨kC, C, hC⟩ := R2 j2 j3
      generalize RR ts (sG ts n) 0 j = y at hA ⊢
      obtain ⟨⟨ax, al⟩, y2⟩ := y
      generalize RR ts (sG ts n) 2 j2 = z at hC kC ⊢
      obtain ⟨⟨cx, cl⟩, z2⟩ := z
      rcases h3 with ⟨j4, j5, rfl⟩ | ⟨j4, rfl⟩
      · obtain ⟨kE, E, hE⟩ := R2 j4 j5
        generalize RR ts (sG ts n) 2 j4 = v at hE kE ⊢
        obtain ⟨⟨ex, el⟩, v2⟩ := v
        by_cases hn : el = []
        · subst hn; exact ⟨_, .ifn _ ax cx ex al cl A C rfl hA kC hC⟩
        · exact ⟨_, .ife _ ax cx ex al cl el A C E rfl hA kC hC kE hn hE⟩
      · exact ⟨_, .ifn _ ax cx _ al cl A C rfl hA kC hC⟩
    rename_i g; rw [if_neg g]
    split at e3
    · rename_i g; rw [if_pos g]
      obtain ⟨q, r, rfl, ⟨j, j1, rfl⟩, q2, r2, rfl, ⟨j2, j3, rfl⟩, rfl⟩ := e3
      obtain ⟨A, hA⟩ := R0 j j1
      obtain ⟨kC, C, hC⟩ := R2 j2 j3
      generalize RR ts (sG ts n) 0 j = y at hA ⊢
      obtain ⟨⟨ax, al⟩, y2⟩ := y
      generalize RR ts (sG ts n) 2 j2 = z at hC kC ⊢
      obtain ⟨⟨cx, cl⟩, z2⟩ := z
      exact ⟨_, .whl _ ax cx al cl A C rfl hA kC hC⟩
    rename_i g; rw [if_neg g]
    split at e3
    · rename_i g; rw [if_pos g]
      obtain ⟨q, r, rfl, ⟨j, j1, rfl⟩, q1, r1, rfl, ⟨i1, i2, rfl⟩, q2, r2, rfl, ⟨j2, j3, rfl⟩, rfl⟩ := e3
      obtain ⟨A, hA⟩ := R0 j j1
      obtain ⟨B, hB⟩ := R0 i1 i2
      obtain ⟨kC, C, hC⟩ := R2 j2 j3
      obtain ⟨y, hy⟩ : ∃ y, RR ts (sG ts n) 0 j = y := ⟨_, rfl⟩
      obtain ⟨v, hv⟩ : ∃ y, RR ts (sG ts n) 0 i1 = y := ⟨_, rfl⟩
      rw [hy] at hA ⊢
      rw [hv] at hB ⊢
      obtain ⟨⟨ax, al⟩, y2⟩ := y
      obtain ⟨⟨bx, bl⟩, v2⟩ := v
      generalize RR ts (sG ts n) 2 j2 = z at hC kC ⊢
      obtain ⟨⟨cx, cl⟩, z2⟩ := z
      exact ⟨_, .frr _ ax bx cx al bl cl A B C rfl hs hA hB kC hC⟩
    rename_i g; rw [if_neg g]
    split at e3
    · rename_i g; rw [if_pos g]
      obtain ⟨q, r, rfl, ⟨j, j1, rfl⟩, rfl⟩ := e3
      obtain ⟨A, hA⟩ := R0 j j1
      generalize RR ts (sG ts n) 0 j = y at hA ⊢
      obtain ⟨⟨ax, al⟩, y2⟩ := y
      exact ⟨_, .prn _ ax al A rfl hA⟩
    rename_i g; rw [if_neg g]
    split at e3
    · rename_i g; rw [if_pos g]
      obtain ⟨q, r, rfl, ⟨j, j1, rfl⟩, rfl⟩ := e3
      obtain ⟨A, hA⟩ := R0 j j1
      generalize RR ts (sG ts n) 0 j = y at hA ⊢
      obtain ⟨⟨ax, al⟩, y2⟩ := y
      exact ⟨_, .rtn _ ax al A rfl hA⟩
    rename_i g; rw [if_neg g]
    split at e3
    · rename_i g; rw [if_pos g]
      obtain ⟨q, r, rfl, ⟨j, j1, rfl⟩, rfl⟩ := e3
      obtain ⟨A, hA⟩ := R0 j j1
      generalize RR ts (sG ts n) 0 j = y at hA ⊢
      obtain ⟨⟨ax, al⟩, y2⟩ := y
      exact ⟨_, .doo _ ax al A rfl hA⟩
    rename_i g; rw [if_neg g]
    obtain ⟨q, r, rfl, ⟨j, j1, rfl⟩, q1, r1, rfl, ⟨i1, i2, rfl⟩, rfl⟩ := e3
    obtain ⟨A, hA⟩ := R0 j j1
    obtain ⟨C, hC⟩ := R0 i1 i2
    obtain ⟨y, hy⟩ : ∃ y, RR ts (sG ts n) 0 j = y := ⟨_, rfl⟩
    obtain ⟨v, hv⟩ : ∃ y, RR ts (sG ts n) 0 i1 = y := ⟨_, rfl⟩
    rw [hy] at hA ⊢
    rw [hv] at hC ⊢
    obtain ⟨⟨ax, al⟩, y2⟩ := y
    obtain ⟨⟨bx, bl⟩, v2⟩ := v
    exact ⟨_, .set' _ ax bx al bl A C rfl hA hC⟩
end
end Go.Proofs.YtlkggpjdaaglmaaGreatDoor.am
end
section
namespace Go.Proofs.YtlkggpjdaaglmaaGreatDoor.am
open vt
set_option linter.unusedVariables false
section
variable {ts : List Tok}
theorem litG_ex (hT : TkS ts) {i : Nat} (h : (litG ts i).2.2 = 0) : EX (litG ts i).1 := by
  unfold litG at h ⊢
  split
  · exact ⟨_, .num _ rfl (hT _).2.1 (hT _).2.2⟩
  rename_i c; rw [if_neg c] at h
  split
  · exact ⟨_, .tru _ rfl rfl⟩
  rename_i c; rw [if_neg c] at h
  split
  · exact ⟨_, .fls _ rfl rfl⟩
  · rename_i c; rw [if_neg c] at h; simp [bad7] at h
theorem partG_ex (hT : TkS ts) {i : Nat} (h : (partG ts i).2.2 = 0) : FX (partG ts i).1 := by
  unfold partG at h ⊢
  obtain ⟨b, s', qs, e1, e2, e3⟩ := it_form _ _ _ _ h
  have hs : s'.size ≤ 8192 := by
    rcases e2 with rfl | ⟨j, rfl⟩
    · decide
    · exact (hT j).1
  rw [e1]
  obtain ⟨q, r, rfl, ⟨j, j1, rfl⟩, rfl⟩ := e3
  obtain ⟨A, hA⟩ := tyG_ex hT _ _ j1
  show FX (.mk _ [(Ty9 ts 1 j).1])
  have hA : WT (Ty9 ts 1 j).1 A := hA
  generalize Ty9 ts 1 j = y at hA ⊢
  obtain ⟨⟨ax, al⟩, y2⟩ := y
  exact ⟨_, .mk _ ax al A hs hA⟩
theorem parG_ex (hT : TkS ts) {i : Nat} (h : (parG ts i).2.2 = 0) : ∃ x l, (parG ts i).1 = .mk x l ∧ ∀ d ∈ l, FX d := by
  unfold parG finC at h ⊢
  split
  · rename_i c; rw [if_pos c] at h; exact absurd h c
  · rename_i c
    have c : (cloG ts (partG ts) i true sParO sParS).2.2 = 0 := by simpa using c
    exact ⟨_, _, rfl, cloG_all (Q := FX) (fun i h => partG_ex hT h) c⟩
theorem lpF_all (hT : TkS ts) : ∀ (m i : Nat) (acc : List VT), (∀ d ∈ acc, FX d) → (lpF ts m i acc).2.2 = 0 → ∀ d ∈ (lpF ts m i acc).1, FX d
  | 0, i, acc, ha, h => by simp [lpF] at h
  | m + 1, i, acc, ha, h => by
    unfold lpF at h ⊢
    split
    · exact ha
    rename_i c; rw [if_neg c] at h
    split
    · rename_i c; rw [if_pos c] at h; exact absurd h c
    rename_i c; rw [if_neg c] at h
    have c : (partG ts i).2.2 = 0 := by simpa using c
    split
    · rename_i c2; rw [if_pos c2] at h
      refine lpF_all hT m _ _ (fun d hd => ?_) h
      rcases List.mem_append.1 hd with hd | hd
      · exact ha d hd
      · rw [List.mem_singleton.1 hd]; exact partG_ex hT c
    · rename_i c2; rw [if_neg c2] at h; exact absurd (show (6 : Int) = 0 from h) (by decide)
theorem recG_ex (hT : TkS ts) {i : Nat} (h : (recG ts i).2.2 = 0) : DX (recG ts i).1 := by
  unfold recG at h ⊢
  split
  · rename_i c; rw [if_pos c] at h
    split
    · rename_i c; rw [if_pos c] at h
      unfold finC at h ⊢
      split
      · rename_i c; rw [if_pos c] at h; exact absurd h c
      · rename_i c
        have c : (lpF ts (ts.length + 1) (i + 3) []).2.2 = 0 := by simpa using c
        obtain ⟨Ws, h1, h2⟩ := all_words (R := WF) (lpF_all hT _ _ _ (fun d hd => by cases hd) c)
        exact ⟨_, .rec' _ _ Ws rfl (hT _).1 h1 h2⟩
    · rename_i c; rw [if_neg c] at h; simp [bad7] at h
  · rename_i c; rw [if_neg c] at h; simp [bad7] at h
theorem fn_ex (hT : TkS ts) {a b : Nat} {n : Int} (hn : n = 0 ∨ n = 1) {s : ByteArray} (hs : s.size ≤ 8192) {l : List It} (hl : l = [.sub 4, .sgn sCol, .sub 1, .sub 2]) {qs : List VT} (e3 : FitI (R9 ts) (fun q => ∃ j, q = emB ts j) l qs) : DX (mk7 ts a b 33 n s ([] ++ qs)).1 := by
  subst hl
  obtain ⟨q, r, rfl, ⟨j, j1, rfl⟩, q1, r1, rfl, ⟨i1, i2, rfl⟩, q2, r2, rfl, ⟨j2, j3, rfl⟩, rfl⟩ := e3
  have f4 : R9 ts 4 j = parG ts j := by unfold R9; rw [if_neg (by decide), if_neg (by decide), if_neg (by decide)]
  have f1 : R9 ts 1 i1 = tyG ts (ts.length + 1) i1 := by unfold R9; rw [if_neg (by decide), if_pos rfl]
  have f2 : R9 ts 2 j2 = blG ts (sG ts (ts.length + 1)) j2 := by unfold R9; rw [if_pos rfl]; rfl
  rw [f4] at j1 ⊢
  rw [f1] at i2 ⊢
  rw [f2] at j3 ⊢
  obtain ⟨px, pl, hp, hpl⟩ := parG_ex hT j1
  rw [hp]
  obtain ⟨Ws, w1, w2⟩ := all_words (R := WF) hpl
  obtain ⟨A, hA⟩ := tyG_ex hT _ _ i2
  obtain ⟨kC, C, hC⟩ := blG_bx (sG_sx hT _) j3
  generalize tyG ts (ts.length + 1) i1 = y at hA ⊢
  obtain ⟨⟨ax, al⟩, y2⟩ := y
  generalize blG ts (sG ts (ts.length + 1)) j2 = z at hC kC ⊢
  obtain ⟨⟨cx, cl⟩, z2⟩ := z
  rcases hn with rfl | rfl
  · exact ⟨_, .fn _ px ax cx pl al cl Ws A C rfl rfl hs w1 w2 hA kC hC⟩
  · exact ⟨_, .pub _ px ax cx pl al cl Ws A C rfl rfl hs w1 w2 hA kC hC⟩
theorem declG_ex (hT : TkS ts) {i : Nat} (h : (declG ts i).2.2 = 0) : DX (declG ts i).1 := by
  have f3 : ∀ j, R9 ts 3 j = litG ts j := fun j => by unfold R9; rw [if_neg (by decide), if_neg (by decide), if_pos rfl]
  have f1 : ∀ j, R9 ts 1 j = tyG ts (ts.length + 1) j := fun j => by unfold R9; rw [if_neg (by decide), if_pos rfl]
  unfold declG at h ⊢
  split
  · rename_i c; rw [if_pos c] at h
    obtain ⟨b, s', qs, e1, e2, e3⟩ := it_form _ _ _ _ h
    have hs : s'.size ≤ 8192 := by
      rcases e2 with rfl | ⟨j, rfl⟩
      · decide
      · exact (hT j).1
    rw [e1]
    obtain ⟨q, r, rfl, ⟨j, j1, rfl⟩, rfl⟩ := e3
    rw [f3] at j1 ⊢
    obtain ⟨A, hA⟩ := litG_ex hT j1
    generalize litG ts j = y at hA ⊢
    obtain ⟨⟨ax, al⟩, y2⟩ := y
    exact ⟨_, .dfn _ ax al A rfl hs hA⟩
  rename_i c; rw [if_neg c] at h
  split
  · rename_i c; rw [if_pos c] at h
    obtain ⟨b, s', qs, e1, e2, e3⟩ := it_form _ _ _ _ h
    have hs : s'.size ≤ 8192 := by
      rcases e2 with rfl | ⟨j, rfl⟩
      · decide
      · exact (hT j).1
    rw [e1]
    obtain ⟨q, r, rfl, ⟨j, j1, rfl⟩, rfl⟩ := e3
    rw [f1] at j1 ⊢
    obtain ⟨A, hA⟩ := tyG_ex hT _ _ j1
    generalize tyG ts (ts.length + 1) j = y at hA ⊢
    obtain ⟨⟨ax, al⟩, y2⟩ := y
    exact ⟨_, .var' _ ax al A rfl hs hA⟩
  rename_i c; rw [if_neg c] at h
  split
  · rename_i c; rw [if_pos c] at h
    obtain ⟨b, s', qs, e1, e2, e3⟩ := it_form _ _ _ _ h
    have hs : s'.size ≤ 8192 := by
      rcases e2 with rfl | ⟨j, rfl⟩
      · decide
      · exact (hT j).1
    rw [e1]
    exact fn_ex hT (.inr rfl) hs rfl e3
  rename_i c; rw [if_neg c] at h
  split
  · rename_i c; rw [if_pos c] at h
    obtain ⟨b, s', qs, e1, e2, e3⟩ := it_form _ _ _ _ h
    have hs : s'.size ≤ 8192 := by
      rcases e2 with rfl | ⟨j, rfl⟩
      · decide
      · exact (hT j).1
    rw [e1]
    exact fn_ex hT (.inl rfl) hs rfl e3
  rename_i c; rw [if_neg c] at h
  split
  · rename_i c; rw [if_pos c] at h; exact recG_ex hT h
  · rename_i c; rw [if_neg c] at h; simp [bad7] at h
theorem lpU_ex (hT : TkS ts) : ∀ (m i : Nat) (acc : List VT), (∀ d ∈ acc, DX d) → ∀ d ∈ (lpU ts m i acc).1, DX d
  | 0, i, acc, h => by rw [lpU]; exact h
  | m + 1, i, acc, h => by
    rw [lpU]
    by_cases h0 : ts.length ≤ i + 1
    · rw [if_pos h0]; exact h
    rw [if_neg h0]
    by_cases h1 : (declG ts i).2.2 ≠ 0
    · rw [if_pos h1]; exact h
    · rw [if_neg h1]
      have h1 : (declG ts i).2.2 = 0 := by simpa using h1
      refine lpU_ex hT m _ _ (fun d hd => ?_)
      rcases List.mem_append.1 hd with hd | hd
      · exact h d hd
      · rw [List.mem_singleton.1 hd]; exact declG_ex hT h1
end
theorem toks_sml (s : ByteArray) (hs : s.size ≤ 8192) : ∀ n i, s.size - i ≤ n → i ≤ s.size → ∀ x ∈ (lx.toks s i).1, x.s.size ≤ 8192 := by
  have he : (lx.tkEnd s).s.size ≤ 8192 := by show (⟨#[]⟩ : ByteArray).size ≤ 8192; decide
  have hx : ∀ a b, (s.extract a b).size ≤ 8192 := fun a b => by rw [ByteArray.size_extract]; omega
  intro n
  induction n with
  | zero =>
    intro i hn hi x hx'
    have hnx := lx.nx_le hi
    rw [lx.toks, dif_neg (by omega)] at hx'
    rw [List.mem_singleton.1 hx']; exact he
  | succ n ih =>
    intro i hn hi x hx'
    have hnx := lx.nx_le hi
    by_cases h1 : lx.nx s i < s.size; rotate_left
    · rw [lx.toks, dif_neg (by omega)] at hx'
      rw [List.mem_singleton.1 hx']; exact he
    by_cases h2 : (lx.on s (lx.nx s i)).2 = 0; rotate_left
    · rw [lx.toks, dif_pos ⟨h1, hi⟩, dif_neg h2] at hx'
      cases hx'
    obtain ⟨hf, j, hj, hlt, hle⟩ := lx.on_to h1 h2
    rw [lx.toks, dif_pos ⟨h1, hi⟩, dif_pos h2] at hx'
    simp only at hx'
    have hone : (lx.on s (lx.nx s i)).1.s.size ≤ 8192 := by
      unfold lx.on
      split
      · split
        · decide
        · exact hx _ _
      · split
        · split
          · decide
          · show (⟨#[]⟩ : ByteArray).size ≤ 8192; decide
        · split
          · decide
          · exact hx _ _
    obtain ⟨y, hy⟩ : ∃ y, (lx.on s (lx.nx s i)).1 = y := ⟨_, rfl⟩
    rw [hy] at hj hx' hone
    have hjt : y.t.toNat = j := by rw [hj]; simp
    rw [hjt] at hx'
    by_cases h3 : (lx.toks s j).2.2 = 0
    · rw [if_pos h3] at hx'
      rcases List.mem_cons.1 hx' with rfl | hx'
      · exact hone
      · exact ih j (by omega) hle x hx'
    · rw [if_neg h3] at hx'
      exact ih j (by omega) hle x hx'
theorem tok_tks {s : ByteArray} (h : (tokG s).2.2 = 0) : TkS (tokG s).1 := by
  have hto := tok_to (tok_ok h)
  intro j
  rcases Nat.lt_or_ge j (tokG s).1.length with hj | hj
  · have hx : (tokG s).1[j]? = some ((tokG s).1[j]'hj) := List.getElem?_eq_getElem hj
    refine ⟨?_, (hto.1 j hj).1.1, (hto.1 j hj).1.2⟩
    rw [nxt_some hx]
    have hm := List.getElem_mem hj
    generalize (tokG s).1[j]'hj = y at hm
    unfold tokG lx.tokens at hm h
    by_cases hb : 8192 < s.size
    · rw [if_pos hb] at h; exact absurd (show (3 : Int) = 0 from h) (by decide)
    rw [if_neg hb] at hm
    obtain ⟨z, hz, rfl⟩ := List.mem_map.1 hm
    exact toks_sml s (by omega) s.size 0 (Nat.sub_le _ _) (Nat.zero_le _) z hz
  · rw [nxt_none hj]; exact ⟨by decide, by decide, by decide⟩
theorem unit_dx (s : ByteArray) {x : Lab} {l : List VT} (h : (unitG s).1 = .mk x l) : ∀ d ∈ l, DX d := by
  have hz : ∀ {x l}, z0 = .mk x l → ∀ d ∈ l, DX d := fun {x l} e d hd => by
    obtain ⟨rfl, rfl⟩ := (Tr.mk.injEq _ _ _ _).mp e
    cases hd
  unfold unitG at h
  split at h
  · exact hz h
  rename_i h0
  have h0 : (tokG s).2.2 = 0 := by simpa using h0
  unfold modG at h
  split at h
  · exact hz h
  split at h
  · exact hz h
  split at h
  · exact hz h
  · obtain ⟨rfl, rfl⟩ := (Tr.mk.injEq _ _ _ _).mp h
    exact lpU_ex (tok_tks h0) _ _ _ (fun d hd => by cases hd)
end Go.Proofs.YtlkggpjdaaglmaaGreatDoor.am
end
