import Derived.Test.YthbamdmkdkfmiaaDoorPkQ4
import Derived.ChangeOld
import Derived.OpenShut
import Derived.Below
import Derived.Test.YthbamdmkdkfmiaaDoorPkQ3
import Derived.Test.YthbamdmkdkfmiaaDoorPkQ2
import Derived.Lib.SplitLaws
import Derived.Test.YthbamdmkdkfmiaaDoorChecked
import Derived.ChangeMaps5
import Derived.SizedLaws
set_option maxRecDepth 100000
set_option maxHeartbeats 4000000
section
namespace Go.Proofs.YthbamdmkdkfmiaaDoor.am
open Go.ChangeShapes Go.WideShapes Go.ChangeAt Go.RowKit
open vt
set_option linter.unusedVariables false
set_option linter.unusedSimpArgs false
def quL (l : List UInt8) : List UInt8 := 34 :: qsL l ++ [34]
abbrev quH (l : List UInt8) (k : Nat) : List UInt8 := 34 :: qsL (l.take k)
theorem a1e {l : List UInt8} {k : Nat} {c : UInt8} (h : l[k]? = some c) : quH l (k + 1) = quH l k ++ qbL c := by
  show 34 :: qsL (l.take (k + 1)) = _
  rw [a9w h]; rfl
theorem a65 (l : List UInt8) (k : Nat) : (quH l k).length ≤ 1 + 4 * l.length := by
  have := a4i (l.take k)
  have h2 : (l.take k).length ≤ l.length := by rw [List.length_take]; omega
  show (34 :: qsL (l.take k)).length ≤ _
  rw [List.length_cons]
  omega
theorem s3 (l : List UInt8) (hl : l.length ≤ 100000) : Row Tryd.prog 13 [vS (Bt l)] [] (vS (Bt (quL l))) [] := by
  have h1 : bL ⟨#[]⟩ = [] := rfl
  have v0 : Row Tryd.prog 18 [.v (.c (.ptr 0 0)), .v (.c (.pv (.lit (.int .u8 34))))] [bld 1 ⟨#[]⟩, brw] (.v (.c (.pv (.lit .nilIface)))) [some (bld 2 (Bt (quH l 0))), none, some brw] := a11 ⟨#[]⟩ 34 (by decide)
  refine d9 Tryd.func13 rfl rfl (Nat.le_of_ble_eq_true rfl) ?_
  refine b9 ?_
  refine b8 (fun K hK => ?_); simp -implicitDefEqProofs; refine hK _ ?_
  refine b9 ?_
  refine b8 (fun K hK => ?_); simp -implicitDefEqProofs; refine hK _ ?_
  refine a9h 1 42 5 rfl (by simp) ?_
  simp [St.nilb]
  repeat' (first | refine b9 ?_ | refine b5 ?_ | refine a7 ?_ | refine a8 ?_ | refine d5 rfl ?_ | refine d4 rfl ?_ | ((first | refine b8 (fun K hK => ?_) | refine c6 i5 (fun K hK => ?_) | refine c5 (cg v0 [1,2] ?_) | refine b6 (dg v0 [1,2] ?_) | fail); simp -implicitDefEqProofs) | refine hK _ ?_ | refine hK _ _ (by rfl) ?_ | fail)
  refine a29 (ι := Nat) (fun k => a7l [(0, vS (Bt l)), (3, .v (.c (.ptr 0 0))), (7, vI (l.length : Nat)), (8, vI (k : Nat))] [some (bld 1 (Bt (quH l k))), some brw]) (fun k => k ≤ l.length) (fun k => l.length - k) 0 (Nat.zero_le _) (d8 [1, 3] (by simp -implicitDefEqProofs) (by simp -implicitDefEqProofs) (by decide) rfl (by simp)) (fun Z hI k hk => ?_)
  clear v0 h1
  have hTl := a65 l k
  by_cases hkl : k < l.length; rotate_left
  · have : k = l.length := by omega
    subst this
    obtain ⟨T, hT⟩ : ∃ T, quH l l.length = T := ⟨_, rfl⟩
    have hq : quL l = T ++ [34] := by rw [← hT]; unfold quL quH; rw [List.take_length]
    rw [hT] at hTl ⊢
    rw [hq]
    have v8 : Row Tryd.prog 18 [.v (.c (.ptr 0 0)), .v (.c (.pv (.lit (.int .u8 34))))] [bld 1 (Bt T), brw] (.v (.c (.pv (.lit .nilIface)))) [some (bld 2 (Bt (T ++ [34]))), none, some brw] := by
      have := a11 (Bt T) 34 (by rw [j2]; omega)
      rw [show (⟨#[34]⟩ : ByteArray) = Bt [34] from rfl, a6b] at this
      exact this
    have v9 := a3b (Bt (T ++ [34]))
    repeat' (first | refine b9 ?_ | refine b5 ?_ | refine a7 ?_ | refine a8 ?_ | refine d5 rfl ?_ | refine d4 rfl ?_ | ((first | refine b8 (fun K hK => ?_) | refine c6 i5 (fun K hK => ?_) | refine c5 (cg v8 [0,1] ?_) | refine b6 (dg v8 [0,1] ?_) | refine c5 (cg v9 [0,3] ?_) | refine b6 (dg v9 [0,3] ?_) | fail); simp -implicitDefEqProofs) | refine hK _ ?_ | refine hK _ _ (by rfl) ?_ | fail)
    refine d6 (f6 ?_); simp -implicitDefEqProofs [a1n, j3, j6] <;> try rfl
  obtain ⟨c, hc⟩ : ∃ c, l[k]? = some c := ⟨_, List.getElem?_eq_getElem hkl⟩
  have hc' := (List.getElem?_eq_some_iff.1 hc).2
  have w2 : IntKind.i64.wrap ((k : Nat) + 1 : Int) = (k : Nat) + 1 := a2u _ (by omega) (by omega)
  have hb := a9t c
  have hs := a1e hc
  obtain ⟨T, hT⟩ : ∃ T, quH l k = T := ⟨_, rfl⟩
  obtain ⟨q, hq⟩ : ∃ q, qbL c = q := ⟨_, rfl⟩
  have hql := (a2g c).2
  rw [hT] at hs hTl ⊢
  rw [hq] at hs hb hql
  have v1 := a40 (Bt T) (Bt q) (by rw [j2, j2]; omega)
  rw [a6b, j2] at v1
  repeat' (first | refine b9 ?_ | refine b5 ?_ | refine a7 ?_ | refine a8 ?_ | refine d5 rfl ?_ | refine d4 rfl ?_ | ((first | refine b8 (fun K hK => ?_) | refine c6 i5 (fun K hK => ?_) | refine c5 (cp hb ?_) | refine b6 (dp hb ?_) | refine c5 (cg v1 [0,1] ?_) | refine b6 (dg v1 [0,1] ?_) | fail); simp -implicitDefEqProofs [hkl, hc, hc', w2]) | refine hK _ ?_ | refine hK _ _ (by rfl) ?_ | fail)
  refine ⟨k + 1, by omega, (by dsimp only; omega), ?_⟩
  rw [hI, hs]; exact d8 [0, 16] (by simp -implicitDefEqProofs) (by simp -implicitDefEqProofs) (by decide) rfl (by simp)
theorem a5a (l : List UInt8) (hl : l.length ≤ 100000) : Row Tryd.prog 14 [vS (Bt l)] [] (vS (Bt (quL l))) [] := by
  refine d9 Tryd.func14 rfl rfl (Nat.le_of_ble_eq_true rfl) ?_
  repeat (first | refine b9 ?_ | refine b5 ?_ | refine a7 ?_ | refine a8 ?_ | refine d5 rfl ?_ | refine d4 rfl ?_ | ((first | refine b8 (fun K hK => ?_) | refine c6 i5 (fun K hK => ?_) | fail); simp -implicitDefEqProofs; first | refine hK _ ?_ | refine hK _ _ (by rfl) ?_ | fail) | fail)
  refine a29 (ι := Nat) (fun k => a7l [(0, vS (Bt l)), (3, vS (Bt (quH l k))), (4, vI (k : Nat))] []) (fun k => k ≤ l.length) (fun k => l.length - k) 0 (Nat.zero_le _) (d8 [] (by simp -implicitDefEqProofs [qsL]) (by simp -implicitDefEqProofs [qsL]) (by decide) rfl (by simp)) (fun Z hI k hk => ?_)
  have hTl := a65 l k
  by_cases hkl : k < l.length; rotate_left
  · have : k = l.length := by omega
    subst this
    obtain ⟨T, hT⟩ : ∃ T, quH l l.length = T := ⟨_, rfl⟩
    have hq : quL l = T ++ [34] := by rw [← hT]; unfold quL quH; rw [List.take_length]
    rw [hT] at hTl ⊢
    rw [hq]
    have b1 : T.length + 1 ≤ 9223372036854775807 := by omega
    repeat (first | refine b9 ?_ | refine b5 ?_ | refine a7 ?_ | refine a8 ?_ | refine d5 rfl ?_ | refine d4 rfl ?_ | ((first | refine b8 (fun K hK => ?_) | refine c6 i5 (fun K hK => ?_) | fail); simp -implicitDefEqProofs [b1]; first | refine hK _ ?_ | refine hK _ _ (by rfl) ?_ | fail) | fail)
    refine d6 (f6 ?_); simp -implicitDefEqProofs [a1n, j3, j6] <;> try rfl
  obtain ⟨c, hc⟩ : ∃ c, l[k]? = some c := ⟨_, List.getElem?_eq_getElem hkl⟩
  have hc' := (List.getElem?_eq_some_iff.1 hc).2
  have w2 : IntKind.i64.wrap ((k : Nat) + 1 : Int) = (k : Nat) + 1 := a2u _ (by omega) (by omega)
  have hb := a9y c
  have hs := a1e hc
  obtain ⟨T, hT⟩ : ∃ T, quH l k = T := ⟨_, rfl⟩
  obtain ⟨q, hq⟩ : ∃ q, qbL c = q := ⟨_, rfl⟩
  have hql := (a2g c).2
  rw [hT] at hs hTl ⊢
  rw [hq] at hs hb hql
  have b1 : T.length + q.length ≤ 9223372036854775807 := by omega
  repeat' (first | refine b9 ?_ | refine b5 ?_ | refine a7 ?_ | refine a8 ?_ | refine d5 rfl ?_ | refine d4 rfl ?_ | ((first | refine b8 (fun K hK => ?_) | refine c6 i5 (fun K hK => ?_) | refine c5 (cp hb ?_) | refine b6 (dp hb ?_) | fail); simp -implicitDefEqProofs [hkl, hc, hc', w2, b1]) | refine hK _ ?_ | refine hK _ _ (by rfl) ?_ | fail)
  refine ⟨k + 1, by omega, (by dsimp only; omega), ?_⟩
  rw [hI, hs]; exact d8 [] (by simp -implicitDefEqProofs) (by simp -implicitDefEqProofs) (by decide) rfl (by simp)
end Go.Proofs.YthbamdmkdkfmiaaDoor.am
end
section
namespace Go.Proofs.YthbamdmkdkfmiaaDoor.am
open Go.ChangeShapes Go.WideShapes Go.ChangeAt Go.RowKit
set_option linter.unusedVariables false
set_option linter.unusedSimpArgs false
def oldS (w : World) : CS := fun b _ => b < w.heap.size
section
variable {P : Program} {S : CS} {w : World}
theorem e7.take {vs : List Value} {l : List PV} (h : e7 S w vs l) (n : Nat) : e7 S w (vs.take n) (l.take n) := by
  have := (e7.cs (γ := fun _ => .un)).1 h
  refine (e7.cs (γ := fun _ => .un)).2 ?_
  rw [List.map_take]; exact e6.take this n
end
end Go.Proofs.YthbamdmkdkfmiaaDoor.am
end
section
namespace Go.Proofs.YthbamdmkdkfmiaaDoor.am
open Go.ChangeShapes Go.WideShapes Go.ChangeAt Go.RowKit
set_option linter.unusedVariables false
abbrev newS (S : CS) (w w' : World) : CS := fun b o => S b o ∨ (w.heap.size ≤ b ∧ b < w'.heap.size)
theorem Mem.below {γ : Nat → G} {S : CS} {w w' : World} {ch : List AO} (hm : Mem ⟨w, S, γ, []⟩ (fun x => ch[x]?) (fun x => ch.length ≤ x) γ S w) (hb : Below w.heap.size w w') :
    Mem ⟨w, S, γ, []⟩ (fun x => ((ch.map some)[x]?).join) (fun x => (ch.map some).length ≤ x) γ (newS S w w') w' := by
  have hj : ∀ x, ((ch.map some)[x]?).join = ch[x]? := fun x => by
    rw [List.getElem?_map]
    cases ch[x]? <;> rfl
  refine ⟨hb.os, hb.tape, hb.output, hb.size, fun b h _ => hb.block b h, fun b o h => ⟨.inl h, hb.cell (p := ⟨b, o, none⟩) (hm.inb b o h)⟩, fun b o h => h.elim .inl (fun h => .inr (.inl h.1)), fun b o h => h.elim (fun h => Nat.lt_of_lt_of_le (hm.inb b o h) hb.size) (fun h => h.2), GOn.refl _,
    fun x hx => hm.un x (by rw [List.length_map] at hx; exact hx), fun x hx => hm.off x (by rw [← hj]; exact hx), fun x o hx => ?_, hm.dist, fun x b h => ⟨Nat.lt_of_lt_of_le (hm.live x b h).1 hb.size, (hm.live x b h).2⟩⟩
  refine n6.on (hm.obj x o (by rw [← hj]; exact hx)) rfl (GOn.refl _) (fun _ _ h => .inl h) (fun b o h => hb.cell (p := ⟨b, o, none⟩) (hm.inb b o h)) (fun b hbk => ⟨hb.block b (hm.live x b hbk).1, fun o h => h.elim (fun h => h) (fun h => ?_)⟩)
  have := (hm.live x b hbk).1
  exact absurd h.1 (Nat.not_le.2 this)
theorem p5 {P : Program} {f : FuncId} {args : List AV} {ch : List AO} {res : AV}
    (h : ∀ (γ : Nat → G) (S : CS) (w : World) (vs : List Value), Mem ⟨w, S, γ, []⟩ (fun x => ch[x]?) (fun x => ch.length ≤ x) γ S w → f9 γ S w vs args →
      Calls P f vs.toArray w fun e w' => ∃ v, e = .returned v ∧ Below w.heap.size w w' ∧ c9 γ (newS S w w') w' v res) : Spec P f args ch res (ch.map some) := fun γ S w vs hm hv => by
  refine (h γ S w vs hm hv).mono ?_
  rintro e w' ⟨v, h1, h2, h3⟩
  exact ⟨v, γ, newS S w w', h1, hm.below h2, h3⟩
theorem calls_of_lib {P : Program} {w : World} {f : FuncId} {args : List AV} {vs : List Value} {L : List (Nat × Array Value)} (h : Row P f args [.lib L] (.v (.c (.pv (.lit (.bool true))))) [some (.lib L)]) (hL : ∀ p ∈ L, ∀ o, p.1 < w.heap.size ∧ w.cell? ⟨p.1, o, none⟩ = p.2[o]?)
    (hv : f9 (fun _ => .un) (oldS w) w vs args) : Calls P f vs.toArray w fun e w' => e = .returned (.bool true) ∧ Below w.heap.size w w' := by
  have hbk : ∀ x b, (((fun x : Nat => if x = 0 then G.lib else G.un) x).bk = some b) → False := fun x b h => by
    dsimp only at h
    by_cases hx : x = 0
    · rw [if_pos hx] at h; cases h
    · rw [if_neg hx] at h; cases h
  have hm : Mem ⟨w, oldS w, fun x => if x = 0 then .lib else .un, []⟩ (fun x => [AO.lib L][x]?) (fun x => [AO.lib L].length ≤ x) (fun x => if x = 0 then .lib else .un) (oldS w) w := by
    refine ⟨rfl, rfl, rfl, Nat.le_refl _, fun _ _ _ => rfl, fun _ _ h => ⟨h, rfl⟩, fun _ _ h => .inl h, fun _ _ h => h, GOn.refl _, fun x hx => ?_, fun x hx => ?_, fun x o hx => ?_, fun x y _ b h _ => hbk x b h, fun x b h => (hbk x b h).elim⟩
    · have hx : 1 ≤ x := hx
      exact if_neg (by omega)
    · left
      cases x with
      | zero => cases hx
      | succ x => rfl
    · cases x with
      | zero =>
        obtain rfl := Option.some.inj hx
        exact ⟨rfl, fun p hp o => hL p hp o⟩
      | succ x => simp at hx
  have hmono : ∀ (vs : List Value) (args : List AV), f9 (fun _ => .un) (oldS w) w vs args → f9 (fun x => if x = 0 then .lib else .un) (oldS w) w vs args := by
    intro vs
    induction vs with
    | nil => intro args h; cases args with
      | nil => trivial
      | cons _ _ => exact h.elim
    | cons v vs ih => intro args h; cases args with
      | nil => exact h.elim
      | cons a args => exact ⟨c9.mono (fun _ => .inl rfl) (fun _ _ h => h) (fun _ _ _ => rfl) h.1, ih args h.2⟩
  refine (h.spec _ _ w vs hm (hmono vs args hv)).mono ?_
  rintro e w' ⟨v, γ', S', rfl, m, hr⟩
  obtain ⟨rfl, _⟩ := c7 hr
  exact ⟨rfl, m.os, m.tape, m.output, m.size, fun b hb => m.frame b hb (fun x h => hbk x b h)⟩
end Go.Proofs.YthbamdmkdkfmiaaDoor.am
end
section
namespace Go.Proofs.YthbamdmkdkfmiaaDoor.am
open Go.ChangeShapes Go.WideShapes Go.ChangeAt Go.RowKit
open vt
set_option linter.unusedVariables false
set_option linter.unusedSimpArgs false
theorem td_rdr : td Tryd.prog 57 = some ⟨true, 2, 24, [.lit (.string ⟨#[]⟩), .lit (.int .i64 0)], [(0, 1, false), (1, 1, false)], .struct⟩ := Eq.trans (by kernel_rfl) (Eq.refl _)
theorem td_prdr : td Tryd.prog 55 = some ⟨false, 1, 8, [.lit (.pointer none)], [], (.pointer 57)⟩ := Eq.trans (by kernel_rfl) (Eq.refl _)
attribute [simp] td_rdr td_prdr
abbrev bxR (ln : List UInt8) (a : Int) : AO := .box [.pv (Sx (Bt ln)), .pv (I a)]
abbrev vR0 : AV := .v (.c (.ptr 0 0))
abbrev vUB (c : UInt8) (b : Bool) : AV := .tup [.c (.pv (.lit (.int .u8 c.toNat))), .c (.pv (Bo b))]
theorem a6w (k : Nat) (hk : k < 16) : Lib.indexByte (Bt [48, 49, 50, 51, 52, 53, 54, 55, 56, 57, 97, 98, 99, 100, 101, 102]).data.toList (((dgH k).toNat : Int)).toNat.toUInt8 = (k : Int) := by
  have : k = 0 ∨ k = 1 ∨ k = 2 ∨ k = 3 ∨ k = 4 ∨ k = 5 ∨ k = 6 ∨ k = 7 ∨ k = 8 ∨ k = 9 ∨ k = 10 ∨ k = 11 ∨ k = 12 ∨ k = 13 ∨ k = 14 ∨ k = 15 := by omega
  rcases this with rfl | rfl | rfl | rfl | rfl | rfl | rfl | rfl | rfl | rfl | rfl | rfl | rfl | rfl | rfl | rfl <;> decide
theorem a2a (k : Nat) (hk : k < 16) : Row Tryd.prog 79 [vS (Bt [48, 49, 50, 51, 52, 53, 54, 55, 56, 57, 97, 98, 99, 100, 101, 102]), vU (dgH k)] [] (vI (k : Nat)) [] := by
  refine ⟨⟨_, Tryd.func79, rfl, rfl⟩, p5 (ch := []) fun γ S w vs hm hv => ?_⟩
  match vs, hv with
  | [v0, v1], ⟨h0, h1, _⟩ =>
    obtain ⟨rfl, _⟩ := c7 h0
    obtain ⟨rfl, _⟩ := c7 h1
    refine (Tryd.strings_IndexByte _ _ w).mono ?_
    rintro e w' ⟨rfl, rfl⟩
    rw [a6w k hk]
    exact ⟨_, rfl, Below.refl _ _, d7 rfl⟩
theorem n1 (ln : List UInt8) (a : Nat) (h : a < ln.length) : Row Tryd.prog 41 [vR0] [bxR ln a] (vB true) [some (bxR ln a)] := by
  refine d9 Tryd.func41 rfl rfl (Nat.le_of_ble_eq_true rfl) ?_
  repeat (first | refine b9 ?_ | refine b5 ?_ | refine a7 ?_ | refine a8 ?_ | refine d5 rfl ?_ | refine d4 rfl ?_ | ((first | refine b8 (fun K hK => ?_) | refine c6 i5 (fun K hK => ?_) | fail); simp -implicitDefEqProofs [h]; first | refine hK _ ?_ | refine hK _ _ (by rfl) ?_ | fail) | fail)
  refine d6 (f4 ?_); simp -implicitDefEqProofs [a0w, j3, j6] <;> try rfl
theorem a9p (ln : List UInt8) (a : Nat) (hl : ln.length ≤ 1000000) (h l : Nat) (hh : h < 16) (hl2 : l < 16) (h1 : ln[a]? = some (dgH h)) (h2 : ln[a + 1]? = some (dgH l)) : Row Tryd.prog 68 [vR0] [bxR ln a] (.tup [.c (.pv (.lit (.int .u8 ((16 * h + l : Nat) : Int)))), .c (.pv (Bo true))]) [some (bxR ln ((a + 2 : Nat) : Int))] := by
  have i1 := a2a h hh
  have i2 := a2a l hl2
  have g1 := (List.getElem?_eq_some_iff.1 h1).2
  have g2 := (List.getElem?_eq_some_iff.1 h2).2
  have b2 := (List.getElem?_eq_some_iff.1 h2).1
  have b1 : a < ln.length := by omega
  have b3 : ¬ (ln.length : Int) < (a : Int) + 2 := by omega
  have b4 : a + 1 < ln.length := b2
  have w2 : IntKind.i64.wrap ((a : Nat) + 2 : Int) = (a : Nat) + 2 := a2u _ (by omega) (by omega)
  have w1 : IntKind.i64.wrap ((a : Nat) + 1 : Int) = (a : Nat) + 1 := a2u _ (by omega) (by omega)
  have t1 : ((a : Int) + 1).toNat = a + 1 := by omega
  have z3 : (0 : Int) ≤ (a : Int) + 1 := by omega
  have w3 : IntKind.i64.wrap (16 * (h : Int)) = 16 * (h : Int) := a2u _ (by omega) (by omega)
  have w4 : IntKind.i64.wrap (16 * (h : Int) + (l : Int)) = 16 * (h : Int) + (l : Int) := a2u _ (by omega) (by omega)
  have w5 : IntKind.u8.wrap (16 * (h : Int) + (l : Int)) = 16 * (h : Int) + (l : Int) := u8w _ (by omega) (by omega)
  have z1 : (0 : Int) ≤ (h : Nat) := by omega
  have z2 : (0 : Int) ≤ (l : Nat) := by omega
  refine d9 Tryd.func68 rfl rfl (Nat.le_of_ble_eq_true rfl) ?_
  repeat' (first | refine b9 ?_ | refine b5 ?_ | refine a7 ?_ | refine a8 ?_ | refine d5 rfl ?_ | refine d4 rfl ?_ | ((first | refine b8 (fun K hK => ?_) | refine c6 i5 (fun K hK => ?_) | refine c5 (cp i1 ?_) | refine b6 (dp i1 ?_) | refine c5 (cp i2 ?_) | refine b6 (dp i2 ?_) | fail); simp -implicitDefEqProofs [b1, b3, b4, g1, g2, h1, h2, w1, w2, w3, w4, w5, z1, z2, z3, t1]) | refine hK _ ?_ | refine hK _ _ (by rfl) ?_ | fail)
  refine d6 (f4 ?_); simp -implicitDefEqProofs [a0w, j3, j6] <;> try rfl
theorem g8 {ln p : List UInt8} {a : Nat} {r : List UInt8} (h : ln.drop a = p ++ r) {i : Nat} {c : UInt8} (hi : p[i]? = some c) : ln[a + i]? = some c := by
  have this : (ln.drop a)[i]? = (p ++ r)[i]? := by rw [h]
  rw [List.getElem?_drop, List.getElem?_append_left (List.getElem?_eq_some_iff.1 hi).1, hi] at this
  exact this
theorem a8b (ln : List UInt8) (a : Nat) (hl : ln.length ≤ 1000000) (c : UInt8) (r : List UInt8) (h : ln.drop a = qbL c ++ r) : Row Tryd.prog 58 [vR0] [bxR ln a] (vUB c true) [some (bxR ln ((a + (qbL c).length : Nat) : Int))] := by
  have w1 : IntKind.i64.wrap ((a : Nat) + 1 : Int) = (a : Nat) + 1 := a2u _ (by
    have := g8 h (List.getElem?_eq_getElem (by have := (a2g c).1; omega : 0 < (qbL c).length))
    have := (List.getElem?_eq_some_iff.1 this).1
    omega) (by
    have := g8 h (List.getElem?_eq_getElem (by have := (a2g c).1; omega : 0 < (qbL c).length))
    have := (List.getElem?_eq_some_iff.1 this).1
    omega)
  have t1 : ((a : Int) + 1).toNat = a + 1 := by omega
  have z3 : (0 : Int) ≤ (a : Int) + 1 := by omega
  unfold qbL at h ⊢
  by_cases h1 : c = 34 ∨ c = 92
  · rw [if_pos h1] at h ⊢
    have d0 := g8 h (i := 0) rfl
    have d1 := g8 h (i := 1) rfl
    rw [Nat.add_zero] at d0
    have g0 := (List.getElem?_eq_some_iff.1 d0).2
    have g1 := (List.getElem?_eq_some_iff.1 d1).2
    have b0 := (List.getElem?_eq_some_iff.1 d0).1
    have b1 := (List.getElem?_eq_some_iff.1 d1).1
    have w2 : IntKind.i64.wrap ((a : Nat) + 1 + 1 : Int) = (a : Nat) + 2 := by rw [a2u _ (by omega) (by omega)]; omega
    have m := n1 ln (a + 1) b1
    have ec : ((a + 1 : Nat) : Int) = (a : Int) + 1 := by omega
    rw [ec] at m
    rcases h1 with rfl | rfl
    · refine d9 Tryd.func58 rfl rfl (Nat.le_of_ble_eq_true rfl) ?_
      repeat' (first | refine b9 ?_ | refine b5 ?_ | refine a7 ?_ | refine a8 ?_ | refine d5 rfl ?_ | refine d4 rfl ?_ | ((first | refine b8 (fun K hK => ?_) | refine c6 i5 (fun K hK => ?_) | refine c5 (cb m 0 ?_) | refine b6 (db m 0 ?_) | fail); simp -implicitDefEqProofs [d0, d1, g0, g1, b0, b1, w1, w2, t1, z3]) | refine hK _ ?_ | refine hK _ _ (by rfl) ?_ | fail)
      refine d6 (f4 ?_); simp -implicitDefEqProofs [a0w, j3, j6] <;> try rfl
    · refine d9 Tryd.func58 rfl rfl (Nat.le_of_ble_eq_true rfl) ?_
      repeat' (first | refine b9 ?_ | refine b5 ?_ | refine a7 ?_ | refine a8 ?_ | refine d5 rfl ?_ | refine d4 rfl ?_ | ((first | refine b8 (fun K hK => ?_) | refine c6 i5 (fun K hK => ?_) | refine c5 (cb m 0 ?_) | refine b6 (db m 0 ?_) | fail); simp -implicitDefEqProofs [d0, d1, g0, g1, b0, b1, w1, w2, t1, z3]) | refine hK _ ?_ | refine hK _ _ (by rfl) ?_ | fail)
      refine d6 (f4 ?_); simp -implicitDefEqProofs [a0w, j3, j6] <;> try rfl
  rw [if_neg h1] at h ⊢
  by_cases h3 : c = 10
  · subst h3
    rw [if_pos rfl] at h ⊢
    have d0 := g8 h (i := 0) rfl
    have d1 := g8 h (i := 1) rfl
    rw [Nat.add_zero] at d0
    have g0 := (List.getElem?_eq_some_iff.1 d0).2
    have g1 := (List.getElem?_eq_some_iff.1 d1).2
    have b0 := (List.getElem?_eq_some_iff.1 d0).1
    have b1 := (List.getElem?_eq_some_iff.1 d1).1
    have w2 : IntKind.i64.wrap ((a : Nat) + 1 + 1 : Int) = (a : Nat) + 2 := by rw [a2u _ (by omega) (by omega)]; omega
    have m := n1 ln (a + 1) b1
    have ec : ((a + 1 : Nat) : Int) = (a : Int) + 1 := by omega
    rw [ec] at m
    refine d9 Tryd.func58 rfl rfl (Nat.le_of_ble_eq_true rfl) ?_
    repeat' (first | refine b9 ?_ | refine b5 ?_ | refine a7 ?_ | refine a8 ?_ | refine d5 rfl ?_ | refine d4 rfl ?_ | ((first | refine b8 (fun K hK => ?_) | refine c6 i5 (fun K hK => ?_) | refine c5 (cb m 0 ?_) | refine b6 (db m 0 ?_) | fail); simp -implicitDefEqProofs [d0, d1, g0, g1, b0, b1, w1, w2, t1, z3]) | refine hK _ ?_ | refine hK _ _ (by rfl) ?_ | fail)
    refine d6 (f4 ?_); simp -implicitDefEqProofs [a0w, j3, j6] <;> try rfl
  rw [if_neg h3] at h ⊢
  by_cases h4 : 32 ≤ c.toNat ∧ c.toNat ≤ 126
  · rw [if_pos h4] at h ⊢
    have g2 : ¬ (c.toNat : Int) = 92 := a1h (fun e => h1 (.inr e))
    have d0 := g8 h (i := 0) rfl
    rw [Nat.add_zero] at d0
    have g0 := (List.getElem?_eq_some_iff.1 d0).2
    have b0 := (List.getElem?_eq_some_iff.1 d0).1
    refine d9 Tryd.func58 rfl rfl (Nat.le_of_ble_eq_true rfl) ?_
    repeat (first | refine b9 ?_ | refine b5 ?_ | refine a7 ?_ | refine a8 ?_ | refine d5 rfl ?_ | refine d4 rfl ?_ | ((first | refine b8 (fun K hK => ?_) | refine c6 i5 (fun K hK => ?_) | fail); simp -implicitDefEqProofs [d0, g0, b0, w1, g2]; first | refine hK _ ?_ | refine hK _ _ (by rfl) ?_ | fail) | fail)
    refine d6 (f4 ?_); simp -implicitDefEqProofs [a0w, j3, j6] <;> try rfl
  rw [if_neg h4] at h ⊢
  have hc := c.toNat_lt
  have d0 := g8 h (i := 0) rfl
  have d1 := g8 h (i := 1) rfl
  have d2 := g8 h (i := 2) rfl
  have d3 := g8 h (i := 3) rfl
  rw [Nat.add_zero] at d0
  have g0 := (List.getElem?_eq_some_iff.1 d0).2
  have g1 := (List.getElem?_eq_some_iff.1 d1).2
  have b0 := (List.getElem?_eq_some_iff.1 d0).1
  have b1 := (List.getElem?_eq_some_iff.1 d1).1
  have w2 : IntKind.i64.wrap ((a : Nat) + 1 + 1 : Int) = (a : Nat) + 2 := by rw [a2u _ (by omega) (by omega)]; omega
  have m := n1 ln (a + 1) b1
  have ec : ((a + 1 : Nat) : Int) = (a : Int) + 1 := by omega
  rw [ec] at m
  have x := a9p ln (a + 2) hl (c.toNat / 16) (c.toNat % 16) (by omega) (by omega) d2 d3
  rw [show 16 * (c.toNat / 16) + c.toNat % 16 = c.toNat by omega, show ((a + 2 : Nat) : Int) = (a : Int) + 2 by omega] at x
  clear h
  refine d9 Tryd.func58 rfl rfl (Nat.le_of_ble_eq_true rfl) ?_
  repeat' (first | refine b9 ?_ | refine b5 ?_ | refine a7 ?_ | refine a8 ?_ | refine d5 rfl ?_ | refine d4 rfl ?_ | ((first | refine b8 (fun K hK => ?_) | refine c6 i5 (fun K hK => ?_) | refine c5 (cb m 0 ?_) | refine b6 (db m 0 ?_) | refine c5 (cb x 0 ?_) | refine b6 (db x 0 ?_) | fail); simp -implicitDefEqProofs [d0, d1, g0, g1, b0, b1, w1, w2, t1, z3]) | refine hK _ ?_ | refine hK _ _ (by rfl) ?_ | fail)
  refine d6 (f4 ?_); simp -implicitDefEqProofs [a0w, j3, j6] <;> try rfl
def bC (l : List UInt8) : List (List PV) := l.map fun c => [PV.lit (.int .u8 (c.toNat : Int))]
theorem a8w : ∀ l : List UInt8, a2w (bC l) = some l
  | [] => rfl
  | c :: l => by
    show a2w ([.lit (.int .u8 (c.toNat : Int))] :: bC l) = _
    rw [p6, a8w l]; rfl
theorem bC_len (l : List UInt8) : (bC l).length = l.length := by unfold bC; rw [List.length_map]
theorem a9i {l : List UInt8} {k : Nat} {c : UInt8} (h : l[k]? = some c) : bC (l.take (k + 1)) = bC (l.take k) ++ [[PV.lit (.int .u8 (c.toNat : Int))]] := by
  unfold bC
  rw [List.take_add_one, h, Option.toList_some, List.map_append]; rfl
theorem a9u (c : UInt8) : ∃ d r, qbL c = d :: r ∧ ¬ d = 34 := by
  unfold qbL
  by_cases h : c = 34 ∨ c = 92
  · rw [if_pos h]; exact ⟨92, _, rfl, by decide⟩
  rw [if_neg h]
  by_cases h3 : c = 10
  · rw [if_pos h3]; exact ⟨92, _, rfl, by decide⟩
  rw [if_neg h3]
  split
  · exact ⟨c, [], rfl, fun e => h (.inl e)⟩
  · exact ⟨92, _, rfl, by decide⟩
theorem qu_cut {l : List UInt8} {k : Nat} {c : UInt8} (h : l[k]? = some c) : quL l = quH l k ++ (qbL c ++ (qsL (l.drop (k + 1)) ++ [34])) := by
  unfold quL quH
  rw [qs_cut h]
  simp
theorem qu_end (l : List UInt8) : quL l = quH l l.length ++ [34] := by
  unfold quL quH
  rw [List.take_length]
theorem a6k {ln p r : List UInt8} {a : Nat} (h : ln.drop a = p ++ r) : ln.drop (a + p.length) = r := by
  rw [← List.drop_drop, h, List.drop_left]
theorem a48 (ln : List UInt8) (a : Nat) (hl : ln.length ≤ 1000000) (l : List UInt8) (hll : l.length ≤ 100000) (hd : ln.drop a = quL l) : Row Tryd.prog 40 [vR0] [bxR ln a] (.tup [.c (.pv (Sx (Bt l))), .c (.pv (Bo true))]) [some (bxR ln (ln.length : Nat))] := by
  have d0 : ln[a]? = some 34 := by
    have := g8 (p := [34]) (r := qsL l ++ [34]) (i := 0) (c := 34) hd rfl
    rwa [Nat.add_zero] at this
  have g0 := (List.getElem?_eq_some_iff.1 d0).2
  have b0 := (List.getElem?_eq_some_iff.1 d0).1
  have m0 := n1 ln a b0
  have w1 : IntKind.i64.wrap ((a : Nat) + 1 : Int) = (a : Nat) + 1 := a2u _ (by omega) (by omega)
  have p0 : ((a + (quH l 0).length : Nat) : Int) = (a : Int) + 1 := rfl
  have q0 : bC (l.take 0) = [] := rfl
  refine d9 Tryd.func40 rfl rfl (Nat.le_of_ble_eq_true rfl) ?_
  repeat' (first | refine b9 ?_ | refine b5 ?_ | refine a7 ?_ | refine a8 ?_ | refine d5 rfl ?_ | refine d4 rfl ?_ | ((first | refine b8 (fun K hK => ?_) | refine c6 i5 (fun K hK => ?_) | refine c5 (cb m0 0 ?_) | refine b6 (db m0 0 ?_) | fail); simp -implicitDefEqProofs [d0, g0, b0, w1]) | refine hK _ ?_ | refine hK _ _ (by rfl) ?_ | fail)
  refine a8n 5 5 1 (by simp) ?_
  simp [St.nil]
  refine a29 (ι := Nat) (fun k => a7l [(0, vR0), (4, vI (a : Nat)), (5, .v (.c (.row 1 1 (bC (l.take k)))))] [some (bxR ln ((a + (quH l k).length : Nat) : Int)), some (.row 5 1)]) (fun k => k ≤ l.length) (fun k => l.length - k) 0 (Nat.zero_le _) (by rw [p0, q0]; exact d8 [0, 137] (by simp -implicitDefEqProofs) (by simp -implicitDefEqProofs) (by decide) rfl (by simp)) (fun Z hI k hk => ?_)
  clear m0 p0 q0 w1
  by_cases hkl : k < l.length; rotate_left
  · have : k = l.length := by omega
    subst this
    have e1 := a6k (p := quH l l.length) (r := [34]) (hd.trans (qu_end l))
    have e2 : (Bt ln).extract a ln.length = Bt (quL l) := by
      rw [a3y, hd, List.take_of_length_le]
      have := congrArg List.length hd
      rw [List.length_drop] at this
      omega
    obtain ⟨P, hP⟩ : ∃ P, a + (quH l l.length).length = P := ⟨_, rfl⟩
    rw [hP] at e1 ⊢
    have d1 : ln[P]? = some 34 := by
      have := g8 (p := [34]) (r := []) (i := 0) (c := 34) e1 rfl
      rwa [Nat.add_zero] at this
    have g1 := (List.getElem?_eq_some_iff.1 d1).2
    have b1 := (List.getElem?_eq_some_iff.1 d1).1
    have e3 : P + 1 = ln.length := by
      have := congrArg List.length e1
      rw [List.length_drop] at this
      simp at this
      omega
    have m1 := n1 ln P b1
    have w2 : IntKind.i64.wrap ((P : Nat) + 1 : Int) = (ln.length : Nat) := by rw [a2u _ (by omega) (by omega)]; omega
    have qr := s3 l hll
    have b2 : a ≤ ln.length := by omega
    have b3 : (a : Int) ≤ ln.length := by omega
    rw [List.take_length]
    clear hd e1 hP
    repeat' (first | refine b9 ?_ | refine b5 ?_ | refine a7 ?_ | refine a8 ?_ | refine d5 rfl ?_ | refine d4 rfl ?_ | ((first | refine b8 (fun K hK => ?_) | refine c6 i5 (fun K hK => ?_) | refine c5 (cb m1 0 ?_) | refine b6 (db m1 0 ?_) | refine c5 (cp qr ?_) | refine b6 (dp qr ?_) | fail); simp -implicitDefEqProofs [d1, g1, b1, w2, a8w, e2, b2, b3]) | refine hK _ ?_ | refine hK _ _ (by rfl) ?_ | fail)
    refine d6 (f4 ?_); simp -implicitDefEqProofs [a0w, j3, j6] <;> try rfl
  obtain ⟨c, hc⟩ : ∃ c, l[k]? = some c := ⟨_, List.getElem?_eq_getElem hkl⟩
  have e1 := a6k (p := quH l k) (hd.trans (qu_cut hc))
  have hs : a + (quH l (k + 1)).length = a + (quH l k).length + (qbL c).length := by rw [a1e hc, List.length_append]; omega
  have hsn := a9i hc
  obtain ⟨P, hP⟩ : ∃ P, a + (quH l k).length = P := ⟨_, rfl⟩
  rw [hP] at e1 hs ⊢
  have by1 := a8b ln P hl c _ e1
  rw [← hs] at by1
  obtain ⟨d, r, hq, hd34⟩ := a9u c
  rw [hq] at e1
  have d1 : ln[P]? = some d := by
    have := g8 (p := d :: r) (i := 0) (c := d) e1 rfl
    rwa [Nat.add_zero] at this
  have g1 := (List.getElem?_eq_some_iff.1 d1).2
  have b1 := (List.getElem?_eq_some_iff.1 d1).1
  have m1 := n1 ln P b1
  have n34 : ¬ (d.toNat : Int) = 34 := a1h hd34
  have hln : (bC (l.take k)).length = k := by rw [bC_len, List.length_take]; omega
  obtain ⟨B, hB⟩ : ∃ B, bC (l.take k) = B := ⟨_, rfl⟩
  rw [hB] at hsn hln ⊢
  have b2 : k + 1 ≤ 140737488355328 := by omega
  clear hd e1 hP hs
  repeat' (first | refine b9 ?_ | refine b5 ?_ | refine a7 ?_ | refine a8 ?_ | refine d5 rfl ?_ | refine d4 rfl ?_ | ((first | refine b8 (fun K hK => ?_) | refine c6 i5 (fun K hK => ?_) | refine c5 (cb m1 0 ?_) | refine b6 (db m1 0 ?_) | refine c5 (cb by1 0 ?_) | refine b6 (db by1 0 ?_) | fail); simp -implicitDefEqProofs [d1, g1, b1, n34, hln, b2]) | refine hK _ ?_ | refine hK _ _ (by rfl) ?_ | fail)
  refine ⟨k + 1, by omega, (by dsimp only; omega), ?_⟩
  rw [hI, hsn]; exact d8 [0, 133] (by simp -implicitDefEqProofs) (by simp -implicitDefEqProofs) (by decide) rfl (by simp)
theorem td_apiop : td Tryd.prog 38 = some ⟨true, 8, 96, [.lit (.int .i64 0), .lit (.string ⟨#[]⟩), .lit (.int .i64 0), .lit (.int .i64 0), .lit (.int .i64 0), .lit (.string ⟨#[]⟩), .nilS, .lit (.int .i64 0)], [(0, 1, false), (1, 1, false), (2, 5, true), (7, 1, false)], .struct⟩ := Eq.trans (by kernel_rfl) (Eq.refl _)
theorem td_apireq : td Tryd.prog 36 = some ⟨true, 5, 64, [.lit (.int .i64 0), .lit (.int .i64 0), .lit (.int .i64 0), .lit (.string ⟨#[]⟩), .nilS], [(0, 1, false), (1, 1, false), (2, 1, false), (3, 1, false), (4, 1, false)], .struct⟩ := Eq.trans (by kernel_rfl) (Eq.refl _)
theorem td_apiops : td Tryd.prog 22 = some ⟨false, 1, 24, [.nilS], [], (.slice 38)⟩ := Eq.trans (by kernel_rfl) (Eq.refl _)
theorem td_strs51 : td Tryd.prog 43 = some ⟨false, 1, 24, [.nilS], [], (.slice 9)⟩ := Eq.trans (by kernel_rfl) (Eq.refl _)
theorem td_errno51 : td Tryd.prog 25 = some ⟨false, 1, 8, [.lit (.int .i64 0)], [], (.int .i64)⟩ := Eq.trans (by kernel_rfl) (Eq.refl _)
attribute [simp] td_apiop td_apireq td_apiops td_strs51 td_errno51
theorem a2d (w r : List UInt8) (hl : (w ++ r).length ≤ 1000000) (hw : ∀ c ∈ w, ¬ c = 32) (hr : r = [] ∨ ∃ s, r = 32 :: s) : Row Tryd.prog 38 [vR0] [bxR (w ++ r) 0] (vS (Bt w)) [some (bxR (w ++ r) (w.length : Nat))] := by
  have e2 : (Bt (w ++ r)).extract 0 w.length = Bt w := by rw [a3y]; simp
  have hll : (w ++ r).length = w.length + r.length := List.length_append
  obtain ⟨ln, hln⟩ : ∃ ln, w ++ r = ln := ⟨_, rfl⟩
  have hat : ∀ k c, w[k]? = some c → ln[k]? = some c := fun k c h => by rw [← hln, List.getElem?_append_left (List.getElem?_eq_some_iff.1 h).1]; exact h
  have hen : r = [] ∨ ln[w.length]? = some 32 := by
    rcases hr with rfl | ⟨s, rfl⟩
    · exact .inl rfl
    · right; rw [← hln]; simp
  rw [hln] at hl e2 hll ⊢
  clear hln hr
  refine d9 Tryd.func38 rfl rfl (Nat.le_of_ble_eq_true rfl) ?_
  repeat (first | refine b9 ?_ | refine b5 ?_ | refine a7 ?_ | refine a8 ?_ | refine d5 rfl ?_ | refine d4 rfl ?_ | ((first | refine b8 (fun K hK => ?_) | refine c6 i5 (fun K hK => ?_) | fail); simp -implicitDefEqProofs; first | refine hK _ ?_ | refine hK _ _ (by rfl) ?_ | fail) | fail)
  refine a29 (ι := Nat) (fun k => a7l [(0, vR0), (3, vI (k : Nat))] [some (bxR ln 0)]) (fun k => k ≤ w.length) (fun k => w.length - k) 0 (Nat.zero_le _) (d8 [0] (by simp -implicitDefEqProofs) (by simp -implicitDefEqProofs) (by decide) rfl (by simp)) (fun Z hI k hk => ?_)
  by_cases hkl : k < w.length; rotate_left
  · have : k = w.length := by omega
    subst this
    have b2 : w.length ≤ ln.length := by omega
    have b3 : (w.length : Int) ≤ ln.length := by omega
    rcases hen with rfl | h32
    · have b1 : ¬ w.length < ln.length := by rw [hll]; simp
      repeat (first | refine b9 ?_ | refine b5 ?_ | refine a7 ?_ | refine a8 ?_ | refine d5 rfl ?_ | refine d4 rfl ?_ | ((first | refine b8 (fun K hK => ?_) | refine c6 i5 (fun K hK => ?_) | fail); simp -implicitDefEqProofs [b1, b2, b3, e2]; first | refine hK _ ?_ | refine hK _ _ (by rfl) ?_ | fail) | fail)
      refine d6 (f4 ?_); simp -implicitDefEqProofs [a0w, j3, j6] <;> try rfl
    · have b1 := (List.getElem?_eq_some_iff.1 h32).1
      have g1 := (List.getElem?_eq_some_iff.1 h32).2
      repeat (first | refine b9 ?_ | refine b5 ?_ | refine a7 ?_ | refine a8 ?_ | refine d5 rfl ?_ | refine d4 rfl ?_ | ((first | refine b8 (fun K hK => ?_) | refine c6 i5 (fun K hK => ?_) | fail); simp -implicitDefEqProofs [b1, b2, b3, e2, h32, g1]; first | refine hK _ ?_ | refine hK _ _ (by rfl) ?_ | fail) | fail)
      refine d6 (f4 ?_); simp -implicitDefEqProofs [a0w, j3, j6] <;> try rfl
  obtain ⟨c, hc⟩ : ∃ c, w[k]? = some c := ⟨_, List.getElem?_eq_getElem hkl⟩
  have h1 := hat k c hc
  have b1 := (List.getElem?_eq_some_iff.1 h1).1
  have g1 := (List.getElem?_eq_some_iff.1 h1).2
  have n32 : ¬ (c.toNat : Int) = 32 := a1h (hw c (List.mem_of_getElem? hc))
  have w2 : IntKind.i64.wrap ((k : Nat) + 1 : Int) = (k : Nat) + 1 := a2u _ (by omega) (by omega)
  repeat (first | refine b9 ?_ | refine b5 ?_ | refine a7 ?_ | refine a8 ?_ | refine d5 rfl ?_ | refine d4 rfl ?_ | ((first | refine b8 (fun K hK => ?_) | refine c6 i5 (fun K hK => ?_) | fail); simp -implicitDefEqProofs [b1, g1, h1, n32, w2]; first | refine hK _ ?_ | refine hK _ _ (by rfl) ?_ | fail) | fail)
  refine ⟨k + 1, by omega, (by dsimp only; omega), ?_⟩
  rw [hI]; exact d8 [0] (by simp -implicitDefEqProofs) (by simp -implicitDefEqProofs) (by decide) rfl (by simp)
def nmL (k : Nat) : List UInt8 :=
  if k = 1 then [108, 111, 97, 100] else if k = 2 then [114, 101, 102, 97, 99, 116, 111, 114] else if k = 3 then [99, 104, 101, 99, 107] else if k = 4 then [117, 110, 100, 111] else if k = 5 then [110, 111, 116, 101]
  else if k = 6 then [115, 121, 110, 99] else if k = 7 then [99, 114, 97, 115, 104] else if k = 8 then [114, 101, 99, 111, 118, 101, 114] else if k = 9 then [118, 101, 114, 105, 102, 121] else []
theorem a0i (k : Nat) (h1 : 1 ≤ k) (h9 : k ≤ 9) : Row Tryd.prog 27 [vI (k : Nat)] [] (vS (Bt (nmL k))) [] := by
  have : k = 1 ∨ k = 2 ∨ k = 3 ∨ k = 4 ∨ k = 5 ∨ k = 6 ∨ k = 7 ∨ k = 8 ∨ k = 9 := by omega
  rcases this with rfl | rfl | rfl | rfl | rfl | rfl | rfl | rfl | rfl
  all_goals
    refine d9 Tryd.func27 rfl rfl (Nat.le_of_ble_eq_true rfl) ?_
    repeat (first | refine b9 ?_ | refine b5 ?_ | refine a7 ?_ | refine a8 ?_ | refine d5 rfl ?_ | refine d4 rfl ?_ | ((first | refine b8 (fun K hK => ?_) | refine c6 i5 (fun K hK => ?_) | fail); simp -implicitDefEqProofs; first | refine hK _ ?_ | refine hK _ _ (by rfl) ?_ | fail) | fail)
    refine d6 (f6 ?_); simp -implicitDefEqProofs [a1n, j3, j6, nmL] <;> try rfl
theorem nm_ne {k i : Nat} (h1 : 1 ≤ k) (h9 : k ≤ 9) (hi : i = 4 ∨ i = 5) (h : ¬ k = i) : ¬ nmL k = nmL i := by
  have : k = 1 ∨ k = 2 ∨ k = 3 ∨ k = 4 ∨ k = 5 ∨ k = 6 ∨ k = 7 ∨ k = 8 ∨ k = 9 := by omega
  rcases hi with rfl | rfl <;> rcases this with rfl | rfl | rfl | rfl | rfl | rfl | rfl | rfl | rfl <;> first | exact absurd rfl h | decide
abbrev vQd : AV := .v (.c (.fn (.func 40) [.ptr 0 0] []))
theorem a4z (ln : List UInt8) (a : Nat) (hl : ln.length ≤ 1000000) (l : List UInt8) (hll : l.length ≤ 100000) (h0 : ln[a]? = some 32) (hd : ln.drop (a + 1) = quL l) : Row Tryd.prog 39 [vR0, vQd] [bxR ln a] (.tup [.c (.pv (Sx (Bt l))), .c (.pv (Bo true))]) [some (bxR ln (ln.length : Nat))] := by
  have q := a48 ln (a + 1) hl l hll hd
  have b0 := (List.getElem?_eq_some_iff.1 h0).1
  have g0 := (List.getElem?_eq_some_iff.1 h0).2
  have ec : ((a + 1 : Nat) : Int) = (a : Int) + 1 := by omega
  rw [ec] at q
  have w1 : IntKind.i64.wrap ((a : Nat) + 1 : Int) = (a : Nat) + 1 := a2u _ (by omega) (by omega)
  have b1 : ¬ (ln.length : Int) ≤ (a : Nat) := by omega
  have b2 : ¬ ln.length ≤ a := by omega
  refine d9 Tryd.func39 rfl rfl (Nat.le_of_ble_eq_true rfl) ?_
  repeat' (first | refine b9 ?_ | refine b5 ?_ | refine a7 ?_ | refine a8 ?_ | refine d5 rfl ?_ | refine d4 rfl ?_ | ((first | refine b8 (fun K hK => ?_) | refine c6 i5 (fun K hK => ?_) | refine c5 (cb q 0 ?_) | refine b6 (db q 0 ?_) | fail); simp -implicitDefEqProofs [b0, b1, b2, g0, h0, w1]) | refine hK _ ?_ | refine hK _ _ (by rfl) ?_ | fail)
  refine d6 (f4 ?_); simp -implicitDefEqProofs [a0w, j3, j6] <;> try rfl
abbrev opC (k : Int) (s : ByteArray) : List PV := [I k, Sx s, I 0, I 0, I 0, Sx ⟨#[]⟩, .nilS, I 0]
abbrev vOp (k : Int) (s : ByteArray) (b : Bool) : AV := .tup [.agg ((opC k s).map .pv), .c (.pv (Bo b))]
abbrev bxO (k : Int) : AO := .box ((opC k ⟨#[]⟩).map .pv)
theorem a9s  : Row Tryd.prog 22 [vR0] [bxR (nmL 4 ++ []) 0] (vOp 4 ⟨#[]⟩ true) [some (bxR (nmL 4 ++ []) (((nmL 4 ++ [])).length : Nat))] := by
  have hp := a2d (nmL 4)  [] (by decide) (by decide) (.inl rfl)
  have hin : nmL 4 = nmL 4 := rfl
  obtain ⟨ln, hln⟩ : ∃ ln, (nmL 4 ++ []) = ln := ⟨_, rfl⟩
  have hp' : Row Tryd.prog 38 [vR0] [bxR ln 0] (vS (Bt (nmL 4))) [some (bxR ln 4)] := by rw [← hln]; exact hp
  clear hp
  rw [hln]
  refine d9 Tryd.func22 rfl rfl (Nat.le_of_ble_eq_true rfl) ?_
  repeat' (first | refine b9 ?_ | refine b5 ?_ | refine a7 ?_ | refine a8 ?_ | refine d5 rfl ?_ | refine d4 rfl ?_ | ((first | refine b8 (fun K hK => ?_) | refine c6 i5 (fun K hK => ?_) | refine c5 (cb hp' 0 ?_) | refine b6 (db hp' 0 ?_) | fail); simp -implicitDefEqProofs) | refine hK _ ?_ | refine hK _ _ (by rfl) ?_ | fail)
  refine a29 (ι := Nat) (fun k => a7l [(0, vR0), (2, .v (.c (.ptr 1 0))), (4, vS (Bt (nmL 4))), (5, .v (.c (.ptr 2 0))), (6, vI (k : Nat))] [some (bxR ln 4), some (bxO 0), some (bxO (if 4 < k then 4 else 0))]) (fun k => 1 ≤ k ∧ k ≤ 10) (fun k => 10 - k) 1 ⟨Nat.le_refl _, by decide⟩ (d8 [0, 1, 14] (by simp -implicitDefEqProofs) (by simp -implicitDefEqProofs) (by decide) rfl (by simp)) (fun Z hI k hk => ?_)
  obtain ⟨k1, k10⟩ := hk
  by_cases h9 : k ≤ 9; rotate_left
  · have : k = 10 := by omega
    subst this
    have el : (ln.length : Int) = 4 := by rw [← hln]; rfl
    rw [el]
    repeat (first | refine b9 ?_ | refine b5 ?_ | refine a7 ?_ | refine a8 ?_ | refine d5 rfl ?_ | refine d4 rfl ?_ | ((first | refine b8 (fun K hK => ?_) | refine c6 i5 (fun K hK => ?_) | fail); simp -implicitDefEqProofs; first | refine hK _ ?_ | refine hK _ _ (by rfl) ?_ | fail) | fail)
    refine d6 (f4 ?_); simp -implicitDefEqProofs [a0w, j3, j6] <;> try rfl
  have h9' : (k : Int) ≤ 9 := by omega
  have w2 : IntKind.i64.wrap ((k : Nat) + 1 : Int) = (k : Nat) + 1 := a2u _ (by omega) (by omega)
  have hn := a0i k k1 h9
  by_cases hki : k = 4
  · subst hki
    have hn' : Row Tryd.prog 27 [vI 4] [] (vS (Bt (nmL 4))) [] := hn
    obtain ⟨N, hN⟩ : ∃ N, nmL 4 = N := ⟨_, rfl⟩
    rw [hN] at hn' ⊢
    have w5 : IntKind.i64.wrap 5 = 5 := by decide
    repeat' (first | refine b9 ?_ | refine b5 ?_ | refine a7 ?_ | refine a8 ?_ | refine d5 rfl ?_ | refine d4 rfl ?_ | ((first | refine b8 (fun K hK => ?_) | refine c6 i5 (fun K hK => ?_) | refine c5 (cp hn' ?_) | refine b6 (dp hn' ?_) | fail); simp -implicitDefEqProofs [w5]) | refine hK _ ?_ | refine hK _ _ (by rfl) ?_ | fail)
    refine ⟨5, ⟨by decide, by decide⟩, (by dsimp only; omega), ?_⟩
    rw [hI]; rw [hN]; exact d8 [0, 1, 2] (by simp -implicitDefEqProofs) (by simp -implicitDefEqProofs) (by decide) rfl (by simp)
  · have hne := nm_ne k1 h9 (.inl rfl) hki
    have e : (if 4 < k + 1 then (4 : Int) else 0) = (if 4 < k then (4 : Int) else 0) := by
      by_cases c : 4 < k
      · rw [if_pos c, if_pos (by omega)]
      · rw [if_neg c, if_neg (by omega)]
    obtain ⟨N, hN⟩ : ∃ N, nmL 4 = N := ⟨_, rfl⟩
    obtain ⟨M, hM⟩ : ∃ M, nmL k = M := ⟨_, rfl⟩
    obtain ⟨g, hg⟩ : ∃ g, (if 4 < k then (4 : Int) else 0) = g := ⟨_, rfl⟩
    rw [hN, hM] at hne
    rw [hM] at hn
    rw [hg] at e
    rw [hN, hg]
    repeat' (first | refine b9 ?_ | refine b5 ?_ | refine a7 ?_ | refine a8 ?_ | refine d5 rfl ?_ | refine d4 rfl ?_ | ((first | refine b8 (fun K hK => ?_) | refine c6 i5 (fun K hK => ?_) | refine c5 (cp hn ?_) | refine b6 (dp hn ?_) | fail); simp -implicitDefEqProofs [h9, h9', hne, w2]) | refine hK _ ?_ | refine hK _ _ (by rfl) ?_ | fail)
    refine ⟨k + 1, ⟨by omega, by omega⟩, (by dsimp only; omega), ?_⟩
    rw [hI]; rw [hN, e]; exact d8 [0, 1, 2] (by simp -implicitDefEqProofs) (by simp -implicitDefEqProofs) (by decide) rfl (by simp)
theorem a9r (l : List UInt8) (hll : l.length ≤ 100000) : Row Tryd.prog 22 [vR0] [bxR (nmL 5 ++ 32 :: quL l) 0] (vOp 5 (Bt l) true) [some (bxR (nmL 5 ++ 32 :: quL l) (((nmL 5 ++ 32 :: quL l)).length : Nat))] := by
  have hp := a2d (nmL 5)  (32 :: quL l) (by have := a4i l; simp [quL]; have : (nmL 5).length = 4 := rfl; omega) (by decide) (.inr ⟨_, rfl⟩)
  have hln6 : (nmL 5 ++ 32 :: quL l).length ≤ 1000000 := by have := a4i l; simp [quL]; have : (nmL 5).length = 4 := rfl; omega
  have hb := a4z (nmL 5 ++ 32 :: quL l) 4 hln6 l hll rfl rfl
  clear hln6
  have hin : nmL 5 = nmL 5 := rfl
  obtain ⟨ln, hln⟩ : ∃ ln, (nmL 5 ++ 32 :: quL l) = ln := ⟨_, rfl⟩
  have hp' : Row Tryd.prog 38 [vR0] [bxR ln 0] (vS (Bt (nmL 5))) [some (bxR ln 4)] := by rw [← hln]; exact hp
  clear hp
  rw [hln]
  refine d9 Tryd.func22 rfl rfl (Nat.le_of_ble_eq_true rfl) ?_
  repeat' (first | refine b9 ?_ | refine b5 ?_ | refine a7 ?_ | refine a8 ?_ | refine d5 rfl ?_ | refine d4 rfl ?_ | ((first | refine b8 (fun K hK => ?_) | refine c6 i5 (fun K hK => ?_) | refine c5 (cb hp' 0 ?_) | refine b6 (db hp' 0 ?_) | fail); simp -implicitDefEqProofs) | refine hK _ ?_ | refine hK _ _ (by rfl) ?_ | fail)
  refine a29 (ι := Nat) (fun k => a7l [(0, vR0), (2, .v (.c (.ptr 1 0))), (4, vS (Bt (nmL 5))), (5, .v (.c (.ptr 2 0))), (6, vI (k : Nat))] [some (bxR ln 4), some (bxO 0), some (bxO (if 5 < k then 5 else 0))]) (fun k => 1 ≤ k ∧ k ≤ 10) (fun k => 10 - k) 1 ⟨Nat.le_refl _, by decide⟩ (d8 [0, 1, 14] (by simp -implicitDefEqProofs) (by simp -implicitDefEqProofs) (by decide) rfl (by simp)) (fun Z hI k hk => ?_)
  obtain ⟨k1, k10⟩ := hk
  by_cases h9 : k ≤ 9; rotate_left
  · have : k = 10 := by omega
    subst this
    have hb' : Row Tryd.prog 39 [vR0, vQd] [bxR ln 4] (.tup [.c (.pv (Sx (Bt l))), .c (.pv (Bo true))]) [some (bxR ln (ln.length : Nat))] := by rw [← hln]; exact hb
    clear hb
    repeat' (first | refine b9 ?_ | refine b5 ?_ | refine a7 ?_ | refine a8 ?_ | refine d5 rfl ?_ | refine d4 rfl ?_ | ((first | refine b8 (fun K hK => ?_) | refine c6 i5 (fun K hK => ?_) | refine c5 (cb hb' 0 ?_) | refine b6 (db hb' 0 ?_) | fail); simp -implicitDefEqProofs) | refine hK _ ?_ | refine hK _ _ (by rfl) ?_ | fail)
    refine d6 (f4 ?_); simp -implicitDefEqProofs [a0w, j3, j6] <;> try rfl
  have h9' : (k : Int) ≤ 9 := by omega
  have w2 : IntKind.i64.wrap ((k : Nat) + 1 : Int) = (k : Nat) + 1 := a2u _ (by omega) (by omega)
  have hn := a0i k k1 h9
  by_cases hki : k = 5
  · subst hki
    have hn' : Row Tryd.prog 27 [vI 5] [] (vS (Bt (nmL 5))) [] := hn
    obtain ⟨N, hN⟩ : ∃ N, nmL 5 = N := ⟨_, rfl⟩
    rw [hN] at hn' ⊢
    have w5 : IntKind.i64.wrap 6 = 6 := by decide
    repeat' (first | refine b9 ?_ | refine b5 ?_ | refine a7 ?_ | refine a8 ?_ | refine d5 rfl ?_ | refine d4 rfl ?_ | ((first | refine b8 (fun K hK => ?_) | refine c6 i5 (fun K hK => ?_) | refine c5 (cp hn' ?_) | refine b6 (dp hn' ?_) | fail); simp -implicitDefEqProofs [w5]) | refine hK _ ?_ | refine hK _ _ (by rfl) ?_ | fail)
    refine ⟨6, ⟨by decide, by decide⟩, (by dsimp only; omega), ?_⟩
    rw [hI]; rw [hN]; exact d8 [0, 1, 2] (by simp -implicitDefEqProofs) (by simp -implicitDefEqProofs) (by decide) rfl (by simp)
  · have hne := nm_ne k1 h9 (.inr rfl) hki
    have e : (if 5 < k + 1 then (5 : Int) else 0) = (if 5 < k then (5 : Int) else 0) := by
      by_cases c : 5 < k
      · rw [if_pos c, if_pos (by omega)]
      · rw [if_neg c, if_neg (by omega)]
    obtain ⟨N, hN⟩ : ∃ N, nmL 5 = N := ⟨_, rfl⟩
    obtain ⟨M, hM⟩ : ∃ M, nmL k = M := ⟨_, rfl⟩
    obtain ⟨g, hg⟩ : ∃ g, (if 5 < k then (5 : Int) else 0) = g := ⟨_, rfl⟩
    rw [hN, hM] at hne
    rw [hM] at hn
    rw [hg] at e
    rw [hN, hg]
    repeat' (first | refine b9 ?_ | refine b5 ?_ | refine a7 ?_ | refine a8 ?_ | refine d5 rfl ?_ | refine d4 rfl ?_ | ((first | refine b8 (fun K hK => ?_) | refine c6 i5 (fun K hK => ?_) | refine c5 (cp hn ?_) | refine b6 (dp hn ?_) | fail); simp -implicitDefEqProofs [h9, h9', hne, w2]) | refine hK _ ?_ | refine hK _ _ (by rfl) ?_ | fail)
    refine ⟨k + 1, ⟨by omega, by omega⟩, (by dsimp only; omega), ?_⟩
    rw [hI]; rw [hN, e]; exact d8 [0, 1, 2] (by simp -implicitDefEqProofs) (by simp -implicitDefEqProofs) (by decide) rfl (by simp)
theorem ix_nl : ∀ (l : List UInt8), (∀ c ∈ l, ¬ c = 10) → Lib.index (l ++ [10]) [10] = (l.length : Int)
  | [], _ => rfl
  | b :: l, h => by
    have hb : ¬ b = 10 := h b (by simp)
    have ih := ix_nl l (fun c hc => h c (by simp [hc]))
    rw [List.cons_append, Lib.index, ih]
    have e1 : List.isPrefixOf [10] (b :: (l ++ [10])) = false := by
      simp [List.isPrefixOf]
      exact fun e => hb e.symm
    rw [e1]
    have e2 : ((l.length : Int) == -1) = false := by
      simp
    rw [e2]
    simp
theorem a8j (l : List UInt8) (h : ∀ c ∈ l, ¬ c = 10) : Lib.countB (Bt (l ++ [10])) (Bt [10]) = 1 ∧ Lib.splitB (Bt [10]) 0 1 (Bt (l ++ [10])) = [Bt l, Bt []] := by
  have hix : Lib.indexB (Bt (l ++ [10])) (Bt [10]) = (l.length : Int) := ix_nl l h
  have hs : (Bt (l ++ [10])).size = l.length + 1 := by rw [j2]; simp
  have h1 : (Bt [10]).size = 1 := rfl
  have e0 : (Bt (l ++ [10])).extract (l.length + 1) (l.length + 1) = Bt [] := by rw [a3y]; simp
  have e1 : (Bt (l ++ [10])).extract 0 (l.length + 0) = Bt l := by rw [a3y]; simp
  constructor
  · rw [Lib.countB_hit _ _ l.length (by rw [h1]; exact Nat.le_refl _) hix, h1, hs, e0]
    rfl
  · rw [Lib.splitB_hit _ _ _ _ l.length hix, h1, hs, e0, e1]
    rfl
abbrev a2v (m : Int) : List (Nat × Array Value) := [(0, #[Value.int .i64 m])]
abbrev vLn (l : List UInt8) : AV := .v (.c (.pv (.sl 1 [[Sx (Bt l)], [Sx (Bt [])]])))
theorem a7a (m : Int) (l : List UInt8) (h : ∀ c ∈ l, ¬ c = 10) (hl : l.length ≤ 1000000) : Row Tryd.prog 21 [vS (Bt (l ++ [10])), vS (Bt [10])] [.lib (a2v m)] (vLn l) [some (.lib (a2v m))] := by
  obtain ⟨c1, c2⟩ := a8j l h
  refine ⟨⟨_, Tryd.func21, rfl, rfl⟩, p5 fun γ S w vs hm hv => ?_⟩
  match vs, hv with
  | [v0, v1], ⟨h0, h1, _⟩ =>
    obtain ⟨rfl, _⟩ := c7 h0
    obtain ⟨rfl, _⟩ := c7 h1
    have ho := hm.obj 0 _ rfl
    have hc := (ho.2 (0, #[Value.int .i64 m]) (by simp) 0).2
    have := Tryd.strings_Split (Bt (l ++ [10])) (Bt [10]) m w (by rw [j2]; simp; omega) hc (by decide)
    rw [c1, c2] at this
    refine this.mono ?_
    rintro e w' ⟨rfl, rfl⟩
    refine ⟨_, rfl, ?_, ?_⟩
    · exact (Below.refl _ w).alloc (Nat.le_refl _) _
    · refine p4 (c := 2) (l := [[Sx (Bt l)], [Sx (Bt [])]]) ⟨by simp, by decide, fun h => (by cases h), .inr ⟨w.heap.size, 0, rfl, ?_, ?_⟩⟩
      · intro e he
        simp at he
        rcases he with rfl | rfl <;> rfl
      · intro i e j p h1 h2
        have hi : (i = 0 ∧ e = [Sx (Bt l)]) ∨ (i = 1 ∧ e = [Sx (Bt [])]) := by
          match i, h1 with
          | 0, h1 => exact .inl ⟨rfl, (Option.some.inj h1).symm⟩
          | 1, h1 => exact .inr ⟨rfl, (Option.some.inj h1).symm⟩
          | i + 2, h1 => simp at h1
        have hj : j = 0 := by
          have := (List.getElem?_eq_some_iff.1 h2).1
          rcases hi with ⟨_, rfl⟩ | ⟨_, rfl⟩ <;> simpa using this
        subst hj
        refine ⟨.inr ⟨Nat.le_refl _, by simp⟩, ?_⟩
        rcases hi with ⟨rfl, rfl⟩ | ⟨rfl, rfl⟩
        · obtain rfl := Option.some.inj h2
          refine ⟨.string (Bt l), ?_, .lit _ rfl⟩
          rw [World.cell?_alloc_at _ _ _ _ rfl]
          rfl
        · obtain rfl := Option.some.inj h2
          refine ⟨.string (Bt []), ?_, .lit _ rfl⟩
          rw [World.cell?_alloc_at _ _ _ _ rfl]
          rfl
abbrev vOps (k : Int) (s : ByteArray) : AV := .tup [.c (.pv (.sl 8 [opC k s])), .c (.pv (I 0)), .c (.pv (I 0))]
theorem a2c (m : Int) (ln : List UInt8) (h10 : ∀ c ∈ ln, ¬ c = 10) (hl : ln.length ≤ 1000000) (k : Int) (s : ByteArray) (hop : Row Tryd.prog 22 [vR0] [bxR ln 0] (vOp k s true) [some (bxR ln (ln.length : Nat))]) : Row Tryd.prog 10 [vS (Bt (ln ++ [10]))] [.lib (a2v m)] (vOps k s) [some (.lib (a2v m))] := by
  have hs := a7a m ln h10 hl
  obtain ⟨T, hT⟩ : ∃ T, Bt (ln ++ [10]) = T := ⟨_, rfl⟩
  rw [hT] at hs ⊢
  clear hT h10
  have o0 : (if (0 : Nat) = 0 then ([] : List (List PV)) else [opC k s]) = [] := rfl
  have o1 : (if (0 : Nat) + 1 = 0 then ([] : List (List PV)) else [opC k s]) = [opC k s] := rfl
  refine d9 Tryd.func10 rfl rfl (Nat.le_of_ble_eq_true rfl) ?_
  refine b9 ?_
  refine b8 (fun K hK => ?_); simp -implicitDefEqProofs; refine hK _ ?_
  refine b9 ?_
  refine b8 (fun K hK => ?_); simp -implicitDefEqProofs; refine hK _ ?_
  refine a8n 5 38 8 (by simp) ?_
  simp [St.nil]
  have w1 : IntKind.i64.wrap 1 = 1 := by decide
  repeat' (first | refine b9 ?_ | refine b5 ?_ | refine a7 ?_ | refine a8 ?_ | refine d5 rfl ?_ | refine d4 rfl ?_ | ((first | refine b8 (fun K hK => ?_) | refine c6 i5 (fun K hK => ?_) | refine c5 (cb hs 0 ?_) | refine b6 (db hs 0 ?_) | fail); simp -implicitDefEqProofs [w1]) | refine hK _ ?_ | refine hK _ _ (by rfl) ?_ | fail)
  refine a29 (ι := Nat) (fun i => a7l [(5, .v (.c (.row 1 8 (if i = 0 then [] else [opC k s])))), (6, vLn ln), (7, vI 1), (20, .v (.c (.pv (.sl 1 [[Sx (Bt ln)]])))), (21, vI 1), (22, vI (i : Nat))] [some (.lib (a2v m)), some (.row 38 8)]) (fun i => i ≤ 1) (fun i => 1 - i) 0 (Nat.zero_le _) (by rw [o0]; exact d8 [0, 5] (by simp -implicitDefEqProofs) (by simp -implicitDefEqProofs) (by decide) rfl (by simp)) (fun Z hI i hi => ?_)
  by_cases hi0 : i = 0; rotate_left
  · have : i = 1 := by omega
    subst this
    rw [if_neg (by decide)]
    repeat (first | refine b9 ?_ | refine b5 ?_ | refine a7 ?_ | refine a8 ?_ | refine d5 rfl ?_ | refine d4 rfl ?_ | ((first | refine b8 (fun K hK => ?_) | refine c6 i5 (fun K hK => ?_) | fail); simp -implicitDefEqProofs; first | refine hK _ ?_ | refine hK _ _ (by rfl) ?_ | fail) | fail)
    refine d6 (f4 ?_); simp -implicitDefEqProofs [a0w, j3, j6] <;> try rfl
  subst hi0
  rw [o0]
  repeat' (first | refine b9 ?_ | refine b5 ?_ | refine a7 ?_ | refine a8 ?_ | refine d5 rfl ?_ | refine d4 rfl ?_ | ((first | refine b8 (fun K hK => ?_) | refine c6 i5 (fun K hK => ?_) | refine c5 (cb hop 10 ?_) | refine b6 (db hop 10 ?_) | fail); simp -implicitDefEqProofs [w1]) | refine hK _ ?_ | refine hK _ _ (by rfl) ?_ | fail)
  refine ⟨1, by omega, (by dsimp only; omega), ?_⟩
  rw [hI, if_neg (by decide)]; exact d8 [0, 41] (by simp -implicitDefEqProofs) (by simp -implicitDefEqProofs) (by decide) rfl (by simp)
theorem a6j (n : Nat) (h : n < 16) : ¬ dgH n = 10 := by
  have : n = 0 ∨ n = 1 ∨ n = 2 ∨ n = 3 ∨ n = 4 ∨ n = 5 ∨ n = 6 ∨ n = 7 ∨ n = 8 ∨ n = 9 ∨ n = 10 ∨ n = 11 ∨ n = 12 ∨ n = 13 ∨ n = 14 ∨ n = 15 := by omega
  rcases this with rfl | rfl | rfl | rfl | rfl | rfl | rfl | rfl | rfl | rfl | rfl | rfl | rfl | rfl | rfl | rfl <;> decide
theorem a9v (c : UInt8) : ∀ d ∈ qbL c, ¬ d = 10 := by
  unfold qbL
  have hc := c.toNat_lt
  split
  · rename_i h
    intro d hd
    simp at hd
    rcases hd with rfl | rfl
    · decide
    · rcases h with rfl | rfl <;> decide
  split
  · intro d hd
    simp at hd
    rcases hd with rfl | rfl <;> decide
  split
  · rename_i h3 h4
    intro d hd
    simp at hd
    subst hd
    exact h3
  · intro d hd
    simp at hd
    rcases hd with rfl | rfl | rfl | rfl
    · decide
    · decide
    · exact a6j _ (by omega)
    · exact a6j _ (by omega)
theorem a6z (l : List UInt8) : ∀ c ∈ nmL 5 ++ 32 :: quL l, ¬ c = 10 := by
  intro c hc
  rcases List.mem_append.1 hc with hc | hc
  · have : ∀ c ∈ nmL 5, ¬ c = 10 := by decide
    exact this c hc
  rcases List.mem_cons.1 hc with rfl | hc
  · decide
  unfold quL at hc
  rcases List.mem_append.1 hc with hc | hc
  · rcases List.mem_cons.1 hc with rfl | hc
    · decide
    · unfold qsL at hc
      obtain ⟨d, _, hd⟩ := List.mem_flatMap.1 hc
      exact a9v d c hd
  · simp at hc; subst hc; decide
theorem a3a (m : Int) : Row Tryd.prog 7 [] [.lib (a2v m)] (vB true) [some (.lib (a2v m))] := by
  have hp : Row Tryd.prog 10 [vS (Bt [117, 110, 100, 111, 10])] [.lib (a2v m)] (vOps 4 ⟨#[]⟩) [some (.lib (a2v m))] := a2c m (nmL 4 ++ []) (by decide) (by decide) 4 ⟨#[]⟩ a9s
  have hq : Row Tryd.prog 13 [vS (Bt [97])] [] (vS (Bt [34, 97, 34])) [] := s3 [97] (by decide)
  refine d9 Tryd.func7 rfl rfl (Nat.le_of_ble_eq_true rfl) ?_
  repeat' (first | refine b9 ?_ | refine b5 ?_ | refine a7 ?_ | refine a8 ?_ | refine d5 rfl ?_ | refine d4 rfl ?_ | ((first | refine b8 (fun K hK => ?_) | refine c6 i5 (fun K hK => ?_) | refine c5 (cb hp 0 ?_) | refine b6 (db hp 0 ?_) | refine c5 (cp hq ?_) | refine b6 (dp hq ?_) | fail); simp -implicitDefEqProofs) | refine hK _ ?_ | refine hK _ _ (by rfl) ?_ | fail)
  refine d6 (f4 ?_); simp -implicitDefEqProofs [a0w, j3, j6] <;> try rfl
theorem x1 (m : Int) (l : List UInt8) : Row Tryd.prog 5 [vS (Bt l)] [.lib (a2v m)] (vB true) [some (.lib (a2v m))] := by
  have haw := a3a m
  by_cases h : 2000 < l.length
  · have h' : (2000 : Int) < l.length := by omega
    refine d9 Tryd.func5 rfl rfl (Nat.le_of_ble_eq_true rfl) ?_
    repeat' (first | refine b9 ?_ | refine b5 ?_ | refine a7 ?_ | refine a8 ?_ | refine d5 rfl ?_ | refine d4 rfl ?_ | ((first | refine b8 (fun K hK => ?_) | refine c6 i5 (fun K hK => ?_) | refine c5 (cb haw 0 ?_) | refine b6 (db haw 0 ?_) | fail); simp -implicitDefEqProofs [h, h']) | refine hK _ ?_ | refine hK _ _ (by rfl) ?_ | fail)
    refine d6 (f4 ?_); simp -implicitDefEqProofs [a0w, j3, j6] <;> try rfl
  have h' : ¬ (2000 : Int) < l.length := by omega
  have hq := s3 l (by omega)
  have hr := a5a l (by omega)
  have hql := a4i l
  have hlen : (quL l).length = (qsL l).length + 2 := by unfold quL; simp
  have hp0 := a2c m (nmL 5 ++ 32 :: quL l) (a6z l) (by rw [List.length_append, List.length_cons]; have : (nmL 5).length = 4 := rfl; omega) 5 (Bt l) (a9r l (by omega))
  have hp : Row Tryd.prog 10 [vS (Bt (110 :: 111 :: 116 :: 101 :: 32 :: (quL l ++ [10])))] [.lib (a2v m)] (vOps 5 (Bt l)) [some (.lib (a2v m))] := hp0
  clear hp0
  obtain ⟨q, hqe⟩ : ∃ q, quL l = q := ⟨_, rfl⟩
  rw [hqe] at hq hr hp hlen
  have b1 : 5 + q.length ≤ 9223372036854775807 := by omega
  have b2 : q.length + 5 + 1 ≤ 9223372036854775807 := by omega
  have b3 : q.length + 1 + 1 + 1 + 1 + 1 + 1 ≤ 9223372036854775807 := by omega
  clear hlen hql hqe
  refine d9 Tryd.func5 rfl rfl (Nat.le_of_ble_eq_true rfl) ?_
  repeat' (first | refine b9 ?_ | refine b5 ?_ | refine a7 ?_ | refine a8 ?_ | refine d5 rfl ?_ | refine d4 rfl ?_ | ((first | refine b8 (fun K hK => ?_) | refine c6 i5 (fun K hK => ?_) | refine c5 (cp hq ?_) | refine b6 (dp hq ?_) | refine c5 (cp hr ?_) | refine b6 (dp hr ?_) | refine c5 (cb hp 0 ?_) | refine b6 (db hp 0 ?_) | refine c5 (cb haw 0 ?_) | refine b6 (db haw 0 ?_) | fail); simp -implicitDefEqProofs [h, h', b1, b2, b3]) | refine hK _ ?_ | refine hK _ _ (by rfl) ?_ | fail)
  trace_state
  refine d6 (f4 ?_); simp -implicitDefEqProofs [a0w, j3, j6] <;> try rfl
end Go.Proofs.YthbamdmkdkfmiaaDoor.am
end
section
namespace Go.Proofs.YthbamdmkdkfmiaaDoor.am
open Go.ChangeShapes Go.WideShapes Go.ChangeAt Go.RowKit
open vt
set_option linter.unusedVariables false
set_option linter.unusedSimpArgs false
theorem law_squotes (m : Int) (s : ByteArray) : Row Tryd.prog 5 [vS s] [.lib (a2v m)] (vB true) [some (.lib (a2v m))] := by
  rw [← a9n s]
  exact x1 m _
set_option maxRecDepth 100000 in
theorem lib_of_shape {w : World} (h : w.ShapedOpen Tryd.prog) : ∃ m, ∀ p ∈ a2v m, ∀ o, p.1 < w.heap.size ∧ w.cell? ⟨p.1, o, none⟩ = p.2[o]? := by
  obtain ⟨m, hm⟩ := Go.Proofs.cell_of_shapedOpen_int (P := Tryd.prog) (g := 0) (zero := #[.int .i64 0]) (t := 3) h (of_decide_eq_true (by kernel_rfl)) (by kernel_rfl) rfl (by kernel_rfl) (by kernel_rfl) Tryd.underlying3
  obtain ⟨cs, hc, hs, _⟩ := h.1 0 #[.int .i64 0] 3 (of_decide_eq_true (by kernel_rfl)) (by kernel_rfl)
  have e : cs = #[Value.int .i64 m] := by
    unfold World.cell? at hm
    rw [hc] at hm
    have hm : cs[0]? = some (.int .i64 m) := by simpa using hm
    have hs : cs.size = 1 := hs
    apply Array.ext (by rw [hs]; rfl)
    intro i h1 h2
    have : i = 0 := by omega
    subst this
    exact (Array.getElem?_eq_some_iff.1 hm).2
  subst e
  refine ⟨m, fun p hp o => ?_⟩
  simp at hp
  subst hp
  refine ⟨(Array.getElem?_eq_some_iff.1 hc).1, ?_⟩
  unfold World.cell?
  rw [hc]
  rfl
set_option maxRecDepth 100000 in
theorem open_vstring {H : Type} {enc : TypeId × Value → H} {w : World} {r : Reach} {b0 : Nat} {v : Value} {d : DataW H} {p : List MemPlace}
    (hv : Value.okWide Tryd.prog w r b0 9 v) (h : DataW.Trod enc Tryd.prog w 0 (fun _ => true) true 9 v d p) : ∃ s : ByteArray, c9 (fun _ => .un) (oldS w) w v (vS s) ∧ s.size ≤ 9223372036854775807 := by
  obtain ⟨s, rfl, _, _, h1⟩ := Go.ChangeMaps.open_string Tryd.underlying9 hv h
  exact ⟨s, .lit _ rfl, by unfold maxLen at h1; omega⟩
section
variable {H : Type} {enc : TypeId × Value → H} {a : Assume} {C : Checked} {os : Os} {f : FuncId} {fn : Func} {s : ChangeSpec} {conds : List PathCond} {apart fresh handsOn again : Bool} {X : World → Array Value → Prop}
theorem handed_shape (hX : ∀ (w w' : World) (args : Array Value), w.heap = w'.heap → X w args → X w' args)
    (own : ownKnob C.prog.godebug = none) (started : os.Started) (noInit : C.prog.inits.idxOf? f = none) (hfn : C.prog.funcs[f]? = some fn)
    (wit : ∃ (w : World) (tape : Tape) (i : Input), w.os = os ∧ (w.forCall tape i).Shaped C.prog ∧ i.vars = [] ∧ Input.okWide C.prog (w.forCall tape i) .any w.heap.size f i ∧
      ((s.pre enc C.prog fn conds apart (w.forCall tape i).memory i.args ∧ X (w.forCall tape i).memory i.args) ∧ sizedMet enc C.prog fn (OpenSpec.ofChange s) apart (w.forCall tape i).memory i.args) ∧ a.holds C.prog (lone (Frame.enter C.prog f i.args .normal) [] (w.forCall tape i)))
    (hcon : ∀ (W : World) (base : Nat) (args : Array Value) (ds gs : List (DataW H)) (bf : List MemPlace),
      (∀ (j : Nat) t v, fn.params[j]? = some t → args[j]? = some v → Value.okWide C.prog W .any base t v) →
      DataW.Whole enc C.prog fn.params.toList s.vars apart W args.toList ds gs bf → X W args → W.ShapedOpen C.prog →
      Calls C.prog f args W fun e W' => ∃ v, e = .returned v ∧ s.post enc C.prog fn apart fresh handsOn again W args v W') :
    ReturnsInHanded a C os f .any (fun w args => (s.pre enc C.prog fn conds apart w args ∧ X w args) ∧ sizedMet enc C.prog fn (OpenSpec.ofChange s) apart w args) (s.post enc C.prog fn apart fresh handsOn again) := by
  refine returnsInHanded_of_calls own started noInit wit fun w tape i _ shp _ ok pre _ => ?_
  obtain ⟨-, -, -, g, hg, -, -, -, -, typed⟩ := ok
  obtain rfl := Option.some.inj (hg.symm.trans hfn)
  obtain ⟨⟨⟨ds, gs, bf, whole, -⟩, hx⟩, -⟩ := pre
  have := hcon (w.forCall tape i) w.heap.size i.args ds gs bf typed (DataW.Whole.of_heap (w' := w.forCall tape i) (by rfl) whole) (hX _ _ _ (by rfl) hx) shp
  refine this.mono ?_
  rintro e W' ⟨v, rfl, post⟩
  exact ChangeSpec.post_blind post
end
end Go.Proofs.YthbamdmkdkfmiaaDoor.am
end
