import Derived.Test.YthmdllhhmhbhbaaGreatDoorPkR14
import Derived.Test.YthmdllhhmhbhbaaGreatDoorPkR4
import Derived.Test.YthmdllhhmhbhbaaGreatDoorPkR10
set_option maxRecDepth 100000
set_option maxHeartbeats 4000000
section
namespace Go.Proofs.YthmdllhhmhbhbaaGreatDoor.am
open Go.ChangeShapes Go.WideShapes Go.ChangeAt Go.RowKit
open vt
set_option linter.unusedVariables false
set_option linter.unusedSimpArgs false
theorem td_scopr : td Tryz.prog 80 = some ⟨true, 5, 72, [.nilS, .lit (.map none), .nilS, .lit (.int .i64 0), .lit (.int .i64 0)], [(0, 1, false), (1, 1, false), (2, 1, false), (3, 1, false), (4, 1, false)], .struct⟩ := Eq.trans (by kernel_rfl) (Eq.refl _)
theorem td_pscopr : td Tryz.prog 76 = some ⟨false, 1, 8, [.lit (.pointer none)], [], (.pointer 80)⟩ := Eq.trans (by kernel_rfl) (Eq.refl _)
theorem td_msi : td Tryz.prog 77 = some ⟨false, 1, 8, [.lit (.map none)], [], (.map 9 3)⟩ := Eq.trans (by kernel_rfl) (Eq.refl _)
attribute [simp] td_scopr td_pscopr td_msi
def plF : Nat → List VT → List (Value × PT)
  | _, [] => []
  | k, d :: r => (.string d.lab.s, .c (I (k : Nat))) :: plF (k + 1) r
theorem a4k (s : ByteArray) : ∀ (l : List VT) (k : Nat), a3v (plF k l) (.string s) = (dcl l s).map fun i => .c (I ((k + i : Nat) : Int))
  | [], k => rfl
  | d :: r, k => by
    unfold plF a3v
    have ih := a4k s r (k + 1)
    by_cases h : s = d.lab.s
    · subst h
      simp [a49, dcl, List.findIdx?_cons]
    · have h' : ¬ d.lab.s = s := fun e => h e.symm
      simp only [a49, h, decide_false, Bool.false_eq_true, if_false, ih]
      simp only [dcl, List.findIdx?_cons, h', decide_false, Bool.false_eq_true, if_false, Option.map_map]
      congr 1
      funext i
      simp only [Function.comp]
      congr 2
      omega
theorem b1z (s : ByteArray) (x : PT) : ∀ (l : List (Value × PT)), a3v l (.string s) = none → b0x l (.string s) x = l ++ [(.string s, x)]
  | [], _ => rfl
  | p :: l, h => by
    unfold a3v at h
    unfold b0x
    split at h
    · cases h
    · rename_i c; rw [if_neg c, b1z s x l h]; rfl
theorem a8c (d : VT) : ∀ (l : List VT) (k : Nat), plF k (l ++ [d]) = plF k l ++ [(.string d.lab.s, .c (I ((k + l.length : Nat) : Int)))]
  | [], k => rfl
  | y :: l, k => by
    rw [List.cons_append]
    unfold plF
    rw [a8c d l, List.cons_append, List.length_cons, show k + 1 + l.length = k + (l.length + 1) by omega]
noncomputable abbrev bxS (i m : Nat) (ml : List VT) (n : Nat) (a e : Int) : AO := .box [.pv (.sl 6 (ml.map tc)), .map m, .vw i 1 0 n, .pv (I a), .pv (I e)]
abbrev arS (E : List ByteArray) : AO := .arr 9 1 (wsS E)
abbrev mpS (ml : List VT) : AO := .mp none (plF 0 ml)
abbrev vPt : AV := .v (.c (.ptr 0 0))
section
variable {P : Program} {N nb : Nat} {st : St} {Q : Exit → St → Prop}
theorem cgS {f : Nat} {dst : Option Nat} {first caps : List Cap} {args cargs : List AV} {ml ml' : List VT} {n n' : Nat} {a a' e e' : Int} {o1 o2 : AO} {ch' : List (Option AO)} {res : AV} {K : St → Prop} (hrow : Row P f cargs [bxS 1 2 ml n a e, o1, o2] res ch') (b : Nat) {i m : Nat} (hb : hlk st.hp b = some (bxS i m ml' n' a' e')) (hk : K ((st.wr (wrs (a0x [b, i, m] 3 st.nx) 0 ch') 8).put dst (res.ren (a0x [b, i, m] 3 st.nx)))) (hfit : a0p 3 (fun k => [b, i, m].getD k 0) cargs (first.map a2a ++ args ++ caps.map a2a) := by first | (simp [*]; done) | fail) (ho : a3m (hlk st.hp) 3 (fun k => [b, i, m].getD k 0) ([bxS 1 2 ml n a e, o1, o2].map some) [b, i, m] := by first | (simp [*]; done) | fail) (hnd : [b, i, m].Nodup := by first | decide | (simp; done) | fail) (hl : ch'.length ≤ 11 := by first | decide | (simp; done) | fail) (hl' : 3 ≤ ch'.length := by first | decide | (simp; done) | fail) (hd : dok N dst = true := by rfl) :
    a4q P N dst (.v (.c (.fn (.func f) first caps))) args st K := cg hrow [b, i, m] hk hfit ho hnd hl hl' hd
theorem dgS {f : Nat} {dst : Option Nat} {first caps : List Cap} {args cargs : List AV} {ml ml' : List VT} {n n' : Nat} {a a' e e' : Int} {o1 o2 : AO} {ch' : List (Option AO)} {res : AV} {K : List Nat → List Nat → St → Prop} (hrow : Row P f cargs [bxS 1 2 ml n a e, o1, o2] res ch') (b : Nat) {i m : Nat} (hb : hlk st.hp b = some (bxS i m ml' n' a' e')) (hk : K [b, i, m] ((wrs (a0x [b, i, m] 3 st.nx) 0 ch').map (·.1)) ((st.wr (wrs (a0x [b, i, m] 3 st.nx) 0 ch') 8).put dst (res.ren (a0x [b, i, m] 3 st.nx)))) (hfit : a0p 3 (fun k => [b, i, m].getD k 0) cargs (first.map a2a ++ args ++ caps.map a2a) := by first | (simp [*]; done) | fail) (ho : a3m (hlk st.hp) 3 (fun k => [b, i, m].getD k 0) ([bxS 1 2 ml n a e, o1, o2].map some) [b, i, m] := by first | (simp [*]; done) | fail) (hnd : [b, i, m].Nodup := by first | decide | (simp; done) | fail) (hl : ch'.length ≤ 11 := by first | decide | (simp; done) | fail) (hl' : 3 ≤ ch'.length := by first | decide | (simp; done) | fail) (hd : dok N dst = true := by rfl) :
    a4p P N dst (.v (.c (.fn (.func f) first caps))) args st K := dg hrow [b, i, m] hk hfit ho hnd hl hl' hd
theorem r8 (X : List Nat) {rs : List ResultVar} {res : AV} {ch' : List (Option AO)} {ml : List VT} {n i : Nat} {a e : Int} (hb : hlk st.hp 0 = some (bxS i 2 ml n a e)) (h : l4 P rs res ch' (0 :: 1 :: 2 :: i :: X) st) (hnd : (0 :: 1 :: 2 :: i :: X).Nodup := by first | decide | (simp; done)) (ht : (0 :: 1 :: 2 :: i :: X).take nb = List.range nb := by rfl) (hl : nb ≤ ch'.length := by first | decide | (simp; done)) : Fin P nb rs res ch' .ret st := j6 (0 :: 1 :: 2 :: i :: X) h hnd ht hl
theorem a17 {tm : List (Nat × AV)} {os : List (Option AO)} {ml : List VT} {n i : Nat} {a e : Int} (X : List Nat) (hw : hlk st.hp 0 = some (bxS i 2 ml n a e)) (ht : covT st.tm os.length (fun k => (0 :: 1 :: 2 :: i :: X).getD k 0) tm) (hc : a3m (hlk st.hp) os.length (fun k => (0 :: 1 :: 2 :: i :: X).getD k 0) os (0 :: 1 :: 2 :: i :: X)) (hnd : (0 :: 1 :: 2 :: i :: X).Nodup) (hb : (0 :: 1 :: 2 :: i :: X).take nb = List.range nb) (hnb : nb ≤ os.length) : Cov N nb st (a0w tm os) := i6 (0 :: 1 :: 2 :: i :: X) ht hc hnd hb hnb
end
theorem b5f (l : List Int) (v : Int) (hl : l.length ≤ 1000000) : Row Tryz.prog 176 [vIs l, vI v] [] (vI (match l.findIdx? (fun z => decide (z = v)) with | some i => (i : Nat) | none => -1)) [] := by
  obtain ⟨R, hR⟩ : ∃ R : Int, (match l.findIdx? (fun z => decide (z = v)) with | some i => ((i : Nat) : Int) | none => -1) = R := ⟨_, rfl⟩
  rw [hR]
  have hno : l.findIdx? (fun z => decide (z = v)) = none → R = -1 := fun h => by rw [← hR, h]
  have hyes : ∀ k : Nat, l.findIdx? (fun z => decide (z = v)) = some k → R = (k : Nat) := fun k h => by rw [← hR, h]
  clear hR
  refine e8 Tryz.func176 rfl rfl (Nat.le_of_ble_eq_true rfl) ?_
  repeat (first | refine d7 ?_ | refine b9 ?_ | refine a8 ?_ | refine b8 ?_ | refine f7 rfl ?_ | refine f6 rfl ?_ | ((first | refine d6 (fun K hK => ?_) | refine d8 f8 (fun K hK => ?_) | fail); simp -implicitDefEqProofs; first | refine hK _ ?_ | refine hK _ _ (by rfl) ?_ | fail) | fail)
  refine v7 (ι := Nat) (fun k => a0w [(0, vIs l), (1, vI v), (7, vI (l.length : Nat)), (8, vI (k : Nat))] []) (fun k => k ≤ l.length ∧ ∀ j z, j < k → l[j]? = some z → z ≠ v) (fun k => l.length - k) 0 ⟨Nat.zero_le _, fun j z h => by omega⟩ (i6 [] (by simp -implicitDefEqProofs) (by simp -implicitDefEqProofs) (by decide) rfl (by simp)) (fun Z hI k hk => ?_)
  obtain ⟨hk, hz⟩ := hk
  by_cases hkl : k < l.length; rotate_left
  · have : k = l.length := by omega
    subst this
    have hR := hno (by
      rw [List.findIdx?_eq_none_iff]
      intro z hm
      obtain ⟨j, hj⟩ := List.mem_iff_getElem?.1 hm
      simp [hz j z (List.getElem?_eq_some_iff.1 hj).1 hj])
    subst hR
    repeat (first | refine d7 ?_ | refine b9 ?_ | refine a8 ?_ | refine b8 ?_ | refine f7 rfl ?_ | refine f6 rfl ?_ | ((first | refine d6 (fun K hK => ?_) | refine d8 f8 (fun K hK => ?_) | fail); simp -implicitDefEqProofs; first | refine hK _ ?_ | refine hK _ _ (by rfl) ?_ | fail) | fail)
    refine e7 (e9 ?_); simp -implicitDefEqProofs [j9, g7, g9] <;> try rfl
  obtain ⟨z, ha⟩ : ∃ a, l[k]? = some a := ⟨_, List.getElem?_eq_getElem hkl⟩
  have ha' := (List.getElem?_eq_some_iff.1 ha).2
  have w2 : IntKind.i64.wrap ((k : Nat) + 1 : Int) = (k : Nat) + 1 := v6 _ (by omega) (by omega)
  by_cases c : z = v
  · subst c
    have hR := hyes k (by
      rw [List.findIdx?_eq_some_iff_getElem]
      refine ⟨hkl, by simp [ha'], fun j hj => ?_⟩
      have := hz j l[j] hj (List.getElem?_eq_getElem (by omega))
      simpa using this)
    subst hR
    repeat (first | refine d7 ?_ | refine b9 ?_ | refine a8 ?_ | refine b8 ?_ | refine f7 rfl ?_ | refine f6 rfl ?_ | ((first | refine d6 (fun K hK => ?_) | refine d8 f8 (fun K hK => ?_) | fail); simp -implicitDefEqProofs [hkl, ha, ha']; first | refine hK _ ?_ | refine hK _ _ (by rfl) ?_ | fail) | fail)
    refine e7 (e9 ?_); simp -implicitDefEqProofs [j9, g7, g9] <;> try rfl
  · have c' : ¬ v = z := fun e => c e.symm
    repeat (first | refine d7 ?_ | refine b9 ?_ | refine a8 ?_ | refine b8 ?_ | refine f7 rfl ?_ | refine f6 rfl ?_ | ((first | refine d6 (fun K hK => ?_) | refine d8 f8 (fun K hK => ?_) | fail); simp -implicitDefEqProofs [hkl, ha, ha', c', w2]; first | refine hK _ ?_ | refine hK _ _ (by rfl) ?_ | fail) | fail)
    refine ⟨k + 1, ⟨by omega, fun j y h1 h2 => ?_⟩, (by dsimp only; omega), ?_⟩
    · by_cases hj : j = k
      · subst hj; rw [ha] at h2; cases h2; exact c
      · exact hz j y (by omega) h2
    · rw [hI]; exact i6 [] (by simp -implicitDefEqProofs) (by simp -implicitDefEqProofs) (by decide) rfl (by simp)
theorem b8f (l : List Int) (v : Int) (hl : l.length ≤ 1000000) : Row Tryz.prog 165 [vIs l, vI v] [] (vB (decide (v ∈ l))) [] := by
  have hi := b5f l v hl
  by_cases h : v ∈ l
  · obtain ⟨i, hidx⟩ : ∃ i, l.findIdx? (fun z => decide (z = v)) = some i := by
      cases hq : l.findIdx? (fun z => decide (z = v)) with
      | none => rw [List.findIdx?_eq_none_iff] at hq; have := hq v h; simp at this
      | some i => exact ⟨i, rfl⟩
    rw [hidx] at hi
    dsimp only at hi
    have hp : (0 : Int) ≤ (i : Nat) := by omega
    rw [decide_eq_true h]
    refine e8 Tryz.func165 rfl rfl (Nat.le_of_ble_eq_true rfl) ?_
    repeat' (first | refine d7 ?_ | refine b9 ?_ | refine a8 ?_ | refine b8 ?_ | refine f7 rfl ?_ | refine f6 rfl ?_ | ((first | refine d6 (fun K hK => ?_) | refine d8 f8 (fun K hK => ?_) | refine b7 (cp hi ?_) | refine a6 (dp hi ?_) | fail); simp -implicitDefEqProofs [hp]) | refine hK _ ?_ | refine hK _ _ (by rfl) ?_ | fail)
    refine e7 (e9 ?_); simp -implicitDefEqProofs [j9, g7, g9] <;> try rfl
  · have hidx : l.findIdx? (fun z => decide (z = v)) = none := by
      rw [List.findIdx?_eq_none_iff]
      intro z hz
      have : z ≠ v := fun e => h (e ▸ hz)
      simp [this]
    rw [hidx] at hi
    dsimp only at hi
    rw [decide_eq_false h]
    refine e8 Tryz.func165 rfl rfl (Nat.le_of_ble_eq_true rfl) ?_
    repeat' (first | refine d7 ?_ | refine b9 ?_ | refine a8 ?_ | refine b8 ?_ | refine f7 rfl ?_ | refine f6 rfl ?_ | ((first | refine d6 (fun K hK => ?_) | refine d8 f8 (fun K hK => ?_) | refine b7 (cp hi ?_) | refine a6 (dp hi ?_) | fail); simp -implicitDefEqProofs) | refine hK _ ?_ | refine hK _ _ (by rfl) ?_ | fail)
    refine e7 (e9 ?_); simp -implicitDefEqProofs [j9, g7, g9] <;> try rfl
theorem b0b (ml : List VT) (n : Nat) (a e : Int) (E : List ByteArray) (x : Lab) (l : List VT) (e' : Int) : Row Tryz.prog 76 [vPt, vT (.mk x l), vI e'] [bxS 1 2 ml n a e, arS E, mpS ml] (.tup []) [some (bxS 1 2 ml n (if e = 0 then x.f else a) (if e = 0 then e' else e)), some (arS E), some (mpS ml)] := by
  by_cases h : e = 0
  · subst h
    refine e8 Tryz.func76 rfl rfl (Nat.le_of_ble_eq_true rfl) ?_
    repeat (first | refine d7 ?_ | refine b9 ?_ | refine a8 ?_ | refine b8 ?_ | refine f7 rfl ?_ | refine f6 rfl ?_ | ((first | refine d6 (fun K hK => ?_) | refine d8 f8 (fun K hK => ?_) | fail); simp -implicitDefEqProofs; first | refine hK _ ?_ | refine hK _ _ (by rfl) ?_ | fail) | fail)
    refine o8 (j6 [0, 1, 2] ?_); simp -implicitDefEqProofs [l4, g7, g9] <;> try rfl
  · refine e8 Tryz.func76 rfl rfl (Nat.le_of_ble_eq_true rfl) ?_
    repeat (first | refine d7 ?_ | refine b9 ?_ | refine a8 ?_ | refine b8 ?_ | refine f7 rfl ?_ | refine f6 rfl ?_ | ((first | refine d6 (fun K hK => ?_) | refine d8 f8 (fun K hK => ?_) | fail); simp -implicitDefEqProofs [h]; first | refine hK _ ?_ | refine hK _ _ (by rfl) ?_ | fail) | fail)
    refine o8 (j6 [0, 1, 2] ?_); simp -implicitDefEqProofs [l4, g7, g9, h] <;> try rfl
theorem a15 (ml : List VT) (hml : ml.length ≤ 100000) (n : Nat) (a e : Int) (E : List ByteArray) (x : Lab) (l : List VT) (Ks : List Int) (hK : Ks.length ≤ 10) : Row Tryz.prog 131 [vPt, vT (.mk x l), vIs Ks] [bxS 1 2 ml n a e, arS E, mpS ml] (vI (if a2r ml x.s ∈ Ks ∧ dcl ml x.s ≠ none then b0v ml x.s else 0)) [some (bxS 1 2 ml n (if a2r ml x.s ∈ Ks ∧ dcl ml x.s ≠ none then a else if e = 0 then x.f else a) (if a2r ml x.s ∈ Ks ∧ dcl ml x.s ≠ none then e else if e = 0 then 8 else e)), some (arS E), some (mpS ml)] := by
  have hf := b0b ml n a e E x l 8
  have hlk := a4k x.s ml 0
  cases hd : dcl ml x.s with
  | none =>
    rw [hd, Option.map_none] at hlk
    simp only [ne_eq, not_true_eq_false, and_false, if_false]
    refine e8 Tryz.func131 rfl rfl (Nat.le_of_ble_eq_true rfl) ?_
    repeat' (first | refine d7 ?_ | refine b9 ?_ | refine a8 ?_ | refine b8 ?_ | refine f7 rfl ?_ | refine f6 rfl ?_ | ((first | refine d6 (fun K hK => ?_) | refine d8 f8 (fun K hK => ?_) | refine b7 (cg hf [0,1,2] ?_) | refine a6 (dg hf [0,1,2] ?_) | fail); simp -implicitDefEqProofs [hlk]) | refine hK _ ?_ | refine hK _ _ (by rfl) ?_ | fail)
    refine e7 (j6 [0, 1, 2] ?_); simp -implicitDefEqProofs [l4, g7, g9] <;> try rfl
  | some i =>
    rw [hd, Option.map_some, Nat.zero_add] at hlk
    have hil := b2t hd
    obtain ⟨⟨dx, dl⟩, ha⟩ : ∃ a, ml[i]? = some a := ⟨_, List.getElem?_eq_getElem hil⟩
    have ha' := (List.getElem?_eq_some_iff.1 ha).2
    have hk : a2r ml x.s = dx.k := by unfold a2r; rw [hd]; simp [ha, Tr.lab]
    have hdi : b0v ml x.s = (i : Nat) := by unfold b0v; rw [hd]
    have hc := b8f Ks dx.k (by omega)
    have w64 : IntKind.i64.wrap ((i : Nat) : Int) = (i : Nat) := v6 _ (by omega) (by omega)
    rw [hk, hdi]
    by_cases hm : dx.k ∈ Ks
    · rw [decide_eq_true hm] at hc
      simp only [hm, ne_eq, reduceCtorEq, not_false_eq_true, and_self, if_true]
      refine e8 Tryz.func131 rfl rfl (Nat.le_of_ble_eq_true rfl) ?_
      repeat' (first | refine d7 ?_ | refine b9 ?_ | refine a8 ?_ | refine b8 ?_ | refine f7 rfl ?_ | refine f6 rfl ?_ | ((first | refine d6 (fun K hK => ?_) | refine d8 f8 (fun K hK => ?_) | refine b7 (cp hc ?_) | refine a6 (dp hc ?_) | fail); simp -implicitDefEqProofs [hlk, hil, ha, ha', w64]) | refine hK _ ?_ | refine hK _ _ (by rfl) ?_ | fail)
      refine e7 (j6 [0, 1, 2] ?_); simp -implicitDefEqProofs [l4, g7, g9] <;> try rfl
    · rw [decide_eq_false hm] at hc
      simp only [hm, false_and, if_false]
      refine e8 Tryz.func131 rfl rfl (Nat.le_of_ble_eq_true rfl) ?_
      repeat' (first | refine d7 ?_ | refine b9 ?_ | refine a8 ?_ | refine b8 ?_ | refine f7 rfl ?_ | refine f6 rfl ?_ | ((first | refine d6 (fun K hK => ?_) | refine d8 f8 (fun K hK => ?_) | refine b7 (cp hc ?_) | refine a6 (dp hc ?_) | refine b7 (cg hf [0,1,2] ?_) | refine a6 (dg hf [0,1,2] ?_) | fail); simp -implicitDefEqProofs [hlk, hil, ha, ha', w64]) | refine hK _ ?_ | refine hK _ _ (by rfl) ?_ | fail)
      refine e7 (j6 [0, 1, 2] ?_); simp -implicitDefEqProofs [l4, g7, g9] <;> try rfl
end Go.Proofs.YthmdllhhmhbhbaaGreatDoor.am
end
section
namespace Go.Proofs.YthmdllhhmhbhbaaGreatDoor.am
open Go.ChangeShapes Go.WideShapes Go.ChangeAt Go.RowKit
open vt
set_option linter.unusedVariables false
set_option linter.unusedSimpArgs false
structure Sq where
  acc : List VT
  L : List ByteArray
  E : List ByteArray
  pl : Int
  er : Int
noncomputable def sqN (stp : Nat → Sq → Sq) (s0 : Sq) : Nat → Sq
  | 0 => s0
  | k + 1 => if (sqN stp s0 k).er = 0 then stp k (sqN stp s0 k) else sqN stp s0 k
def OkE (L E : List ByteArray) : Prop := E.take L.length = L ∧ L.length ≤ E.length
def TOk (ml : List VT) (t : VT) : Prop := ∀ (L E : List ByteArray), OkE L E → L.length + t.size ≤ 100000 → ∃ t' E', ((n8 ml t L).er = 0 → t' = (n8 ml t L).t) ∧ OkE L E' ∧ Row Tryz.prog 78 [vPt, vT t] [bxS 1 2 ml L.length 0 0, arS E, mpS ml] (vT t') [some (bxS 3 2 ml L.length (n8 ml t L).pl (n8 ml t L).er), none, some (mpS ml), some (arS E')]
theorem b86 {ml l : List VT} (h : ∀ y ∈ l, TOk ml y) : ∃ (ft : Nat → List ByteArray → List ByteArray → VT) (fE : Nat → List ByteArray → List ByteArray → List ByteArray), ∀ k y L E, l[k]? = some y → OkE L E → L.length + y.size ≤ 100000 → ((n8 ml y L).er = 0 → ft k L E = (n8 ml y L).t) ∧ OkE L (fE k L E) ∧ Row Tryz.prog 78 [vPt, vT y] [bxS 1 2 ml L.length 0 0, arS E, mpS ml] (vT (ft k L E)) [some (bxS 3 2 ml L.length (n8 ml y L).pl (n8 ml y L).er), none, some (mpS ml), some (arS (fE k L E))] := by
  have key : ∀ (k : Nat) (L E : List ByteArray), ∃ t' E', ∀ y, l[k]? = some y → OkE L E → L.length + y.size ≤ 100000 → ((n8 ml y L).er = 0 → t' = (n8 ml y L).t) ∧ OkE L E' ∧ Row Tryz.prog 78 [vPt, vT y] [bxS 1 2 ml L.length 0 0, arS E, mpS ml] (vT t') [some (bxS 3 2 ml L.length (n8 ml y L).pl (n8 ml y L).er), none, some (mpS ml), some (arS E')] := by
    intro k L E
    by_cases hc : ∃ y, l[k]? = some y ∧ OkE L E ∧ L.length + y.size ≤ 100000
    · obtain ⟨y, h1, h2, h3⟩ := hc
      obtain ⟨t', E', h4⟩ := h y (List.mem_of_getElem? h1) L E h2 h3
      exact ⟨t', E', fun z hz _ _ => by rw [h1] at hz; cases hz; exact h4⟩
    · exact ⟨z0T, [], fun y h1 h2 h3 => absurd ⟨y, h1, h2, h3⟩ hc⟩
  exact ⟨fun k L E => Classical.choose (key k L E), fun k L E => Classical.choose (Classical.choose_spec (key k L E)), fun k y L E h1 h2 h3 => Classical.choose_spec (Classical.choose_spec (key k L E)) y h1 h2 h3⟩
noncomputable def stE (ml l : List VT) (ft : Nat → List ByteArray → List ByteArray → VT) (fE : Nat → List ByteArray → List ByteArray → List ByteArray) (k : Nat) (s : Sq) : Sq := ⟨s.acc ++ [ft k s.L s.E], s.L, fE k s.L s.E, (n8 ml (l.getD k z0T) s.L).pl, (n8 ml (l.getD k z0T) s.L).er⟩
structure InvE (ml l : List VT) (L : List ByteArray) (a e : Int) (k : Nat) (s : Sq) : Prop where
  hL : s.L = L
  hE : OkE L s.E
  len : s.acc.length ≤ k
  pl : s.pl = if e = 0 then (s4 ml L (l.take k)).2.1 else a
  er : s.er = if e = 0 then (s4 ml L (l.take k)).2.2 else e
  acc : e = 0 → (s4 ml L (l.take k)).2.2 = 0 → s.acc = (s4 ml L (l.take k)).1
theorem b8t {ml l : List VT} {L E : List ByteArray} {a e : Int} (ha : e = 0 → a = 0) (hE : OkE L E) (hsz : ∀ y ∈ l, L.length + y.size ≤ 100000) {ft : Nat → List ByteArray → List ByteArray → VT} {fE : Nat → List ByteArray → List ByteArray → List ByteArray} (hf : ∀ k y L E, l[k]? = some y → OkE L E → L.length + y.size ≤ 100000 → ((n8 ml y L).er = 0 → ft k L E = (n8 ml y L).t) ∧ OkE L (fE k L E)) : ∀ k, k ≤ l.length → InvE ml l L a e k (sqN (stE ml l ft fE) ⟨[], L, E, a, e⟩ k)
  | 0, _ => ⟨rfl, hE, Nat.le_refl _, by
      show a = _
      by_cases h : e = 0
      · rw [if_pos h, ha h]; rfl
      · rw [if_neg h], by
      show e = _
      by_cases h : e = 0
      · rw [if_pos h, h]; rfl
      · rw [if_neg h], fun _ _ => rfl⟩
  | k + 1, hk => by
    have ih := b8t ha hE hsz hf k (by omega)
    obtain ⟨y, hy⟩ : ∃ y, l[k]? = some y := ⟨_, List.getElem?_eq_getElem (by omega)⟩
    have hgd : l.getD k z0T = y := by rw [List.getD_eq_getElem?_getD, hy]; rfl
    have htk : l.take (k + 1) = l.take k ++ [y] := by rw [List.take_add_one, hy]; rfl
    unfold sqN
    generalize sqN (stE ml l ft fE) ⟨[], L, E, a, e⟩ k = s at ih
    obtain ⟨hL, hE', len, pl, er, acc⟩ := ih
    by_cases h : s.er = 0
    · rw [if_pos h]
      unfold stE
      rw [hgd, hL]
      obtain ⟨g1, g2⟩ := hf k y L s.E hy hE' (hsz y (List.mem_of_getElem? hy))
      by_cases h0 : e = 0
      · rw [if_pos h0] at pl er
        have h1 : (s4 ml L (l.take k)).2.2 = 0 := by rw [← er]; exact h
        have hs := a1p ml L y (l.take k)
        rw [if_neg (by simpa using h1), ← htk] at hs
        by_cases h2 : (n8 ml y L).er = 0
        · rw [if_neg (by simpa using h2)] at hs
          refine ⟨rfl, g2, by simp; omega, ?_, ?_, fun _ _ => ?_⟩
          · dsimp only; rw [if_pos h0, hs]; exact b6h ml y L h2
          · dsimp only; rw [if_pos h0, hs]; exact h2
          · dsimp only; rw [hs, acc h0 h1, g1 h2]
        · rw [if_pos h2] at hs
          refine ⟨rfl, g2, by simp; omega, ?_, ?_, fun _ h3 => ?_⟩
          · dsimp only; rw [if_pos h0, hs]
          · dsimp only; rw [if_pos h0, hs]
          · rw [hs] at h3; exact absurd h3 h2
      · rw [if_neg h0] at er
        exact absurd (er ▸ h) h0
    · rw [if_neg h]
      refine ⟨hL, hE', by omega, ?_, ?_, fun h0 h3 => ?_⟩
      · by_cases h0 : e = 0
        · rw [if_pos h0] at pl er ⊢
          rw [htk, a1p, if_pos (by rw [← er]; exact h)]; exact pl
        · rw [if_neg h0] at pl ⊢; exact pl
      · by_cases h0 : e = 0
        · rw [if_pos h0] at er ⊢
          rw [htk, a1p, if_pos (by rw [← er]; exact h)]; exact er
        · rw [if_neg h0] at er ⊢; exact er
      · rw [if_pos h0] at er
        rw [htk, a1p, if_pos (by rw [← er]; exact h)] at h3
        exact absurd h3 (by rw [← er]; exact h)
theorem a99 : Row Tryz.prog 129 [.top, vLs []] [] (vLs []) [] := by
  refine e8 Tryz.func129 rfl rfl (Nat.le_of_ble_eq_true rfl) ?_
  repeat (first | refine d7 ?_ | refine b9 ?_ | refine a8 ?_ | refine b8 ?_ | refine f7 rfl ?_ | refine f6 rfl ?_ | ((first | refine d6 (fun K hK => ?_) | refine d8 f8 (fun K hK => ?_) | fail); simp -implicitDefEqProofs; first | refine hK _ ?_ | refine hK _ _ (by rfl) ?_ | fail) | fail)
  refine v7 (ι := Unit) (fun _ => a0w [(5, .v (.c (.pv .nilS))), (8, vLs []), (9, vI 0), (10, vI 0)] []) (fun _ => True) (fun _ => 0) () trivial (i6 [] (by simp -implicitDefEqProofs) (by simp -implicitDefEqProofs) (by decide) rfl (by simp)) (fun Z hI _ _ => ?_)
  repeat (first | refine d7 ?_ | refine b9 ?_ | refine a8 ?_ | refine b8 ?_ | refine f7 rfl ?_ | refine f6 rfl ?_ | ((first | refine d6 (fun K hK => ?_) | refine d8 f8 (fun K hK => ?_) | fail); simp -implicitDefEqProofs; first | refine hK _ ?_ | refine hK _ _ (by rfl) ?_ | fail) | fail)
  refine e7 (e9 ?_); simp -implicitDefEqProofs [j9, g7, g9] <;> try rfl
theorem p9 (ml : List VT) (l : List VT) (h : ∀ y ∈ l, TOk ml y) (L E : List ByteArray) (hE : OkE L E) (hsz : ∀ y ∈ l, L.length + y.size ≤ 100000) (hlen : l.length ≤ 100000) (hL : L.length ≤ 100000) (a e : Int) (ha : e = 0 → a = 0) : ∃ acc E', (e = 0 → (s4 ml L l).2.2 = 0 → acc = (s4 ml L l).1) ∧ acc.length ≤ l.length ∧ OkE L E' ∧ Row Tryz.prog 129 [vPt, vLs l] [bxS 1 2 ml L.length a e, arS E, mpS ml] (.v (.c (.row 4 6 (acc.map tc)))) [some (bxS 3 2 ml L.length (if e = 0 then (s4 ml L l).2.1 else a) (if e = 0 then (s4 ml L l).2.2 else e)), none, some (mpS ml), some (arS E'), some (.row 24 6)] := by
  obtain ⟨ft, fE, hf⟩ := b86 h
  have hinv := b8t (ml := ml) (l := l) ha hE hsz (fun k y L E h1 h2 h3 => ⟨(hf k y L E h1 h2 h3).1, (hf k y L E h1 h2 h3).2.1⟩)
  have hstp : ∀ k, sqN (stE ml l ft fE) ⟨[], L, E, a, e⟩ (k + 1) = if (sqN (stE ml l ft fE) ⟨[], L, E, a, e⟩ k).er = 0 then stE ml l ft fE k (sqN (stE ml l ft fE) ⟨[], L, E, a, e⟩ k) else sqN (stE ml l ft fE) ⟨[], L, E, a, e⟩ k := fun k => rfl
  have h00 : sqN (stE ml l ft fE) ⟨[], L, E, a, e⟩ 0 = ⟨[], L, E, a, e⟩ := rfl
  obtain ⟨S, hS⟩ : ∃ S, sqN (stE ml l ft fE) ⟨[], L, E, a, e⟩ = S := ⟨_, rfl⟩
  rw [hS] at hinv hstp h00
  have hend := hinv l.length (Nat.le_refl _)
  refine ⟨(S l.length).acc, (S l.length).E, fun h0 h1 => ?_, hend.len, hend.hE, ?_⟩
  · have := hend.acc h0 (by rw [List.take_length]; exact h1)
    rw [List.take_length] at this; exact this
  have e1 := hend.pl
  have e2 := hend.er
  rw [List.take_length] at e1 e2
  rw [← e1, ← e2]
  clear e1 e2 hend hS
  have c1 : (S 0).acc = [] := by rw [h00]
  have c2 : (S 0).E = E := by rw [h00]
  have c3 : (S 0).pl = a := by rw [h00]
  have c4 : (S 0).er = e := by rw [h00]
  refine e8 Tryz.func129 rfl rfl (Nat.le_of_ble_eq_true rfl) ?_
  repeat (first | refine d7 ?_ | refine b9 ?_ | refine a8 ?_ | refine b8 ?_ | refine f7 rfl ?_ | refine f6 rfl ?_ | ((first | refine d6 (fun K hK => ?_) | refine d8 f8 (fun K hK => ?_) | fail); simp -implicitDefEqProofs; first | refine hK _ ?_ | refine hK _ _ (by rfl) ?_ | fail) | fail)
  refine l9 1 0 2 _ 9 1 L.length (wsS E) rfl rfl (.inr rfl) (by dsimp only; omega) (by dsimp only; omega) ?_
  simp [St.mvw]
  refine a9f 5 24 6 (by simp) ?_
  refine v7 (ι := Nat) (fun k => a0w [(0, vPt), (5, .v (.c (.row 4 6 ((S k).acc.map tc)))), (8, vLs l), (9, vI (l.length : Nat)), (10, vI (k : Nat))] [some (bxS 3 2 ml L.length (S k).pl (S k).er), none, some (mpS ml), some (arS (S k).E), some (.row 24 6)]) (fun k => k ≤ l.length) (fun k => l.length - k) 0 (Nat.zero_le _) (by rw [c1, c2, c3, c4]; unfold St.nil; exact a17 [9] rfl (by simp -implicitDefEqProofs) (by simp -implicitDefEqProofs) (by decide) rfl (by simp)) (fun Z hI k hk => ?_)
  by_cases hkl : k < l.length; rotate_left
  · have : k = l.length := by omega
    subst this
    repeat (first | refine d7 ?_ | refine b9 ?_ | refine a8 ?_ | refine b8 ?_ | refine f7 rfl ?_ | refine f6 rfl ?_ | ((first | refine d6 (fun K hK => ?_) | refine d8 f8 (fun K hK => ?_) | fail); simp -implicitDefEqProofs; first | refine hK _ ?_ | refine hK _ _ (by rfl) ?_ | fail) | fail)
    refine e7 (r8 [4] rfl ?_); simp -implicitDefEqProofs [l4, g7, g9] <;> try rfl
  obtain ⟨⟨ax, al⟩, hy⟩ : ∃ a, l[k]? = some a := ⟨_, List.getElem?_eq_getElem hkl⟩
  have hy' := (List.getElem?_eq_some_iff.1 hy).2
  have w2 : IntKind.i64.wrap ((k : Nat) + 1 : Int) = (k : Nat) + 1 := v6 _ (by omega) (by omega)
  have hi := hinv k hk
  have hs := hstp k
  have hgd : l.getD k z0T = .mk ax al := by rw [List.getD_eq_getElem?_getD, hy]; rfl
  obtain ⟨s, hsk⟩ : ∃ s, S k = s := ⟨_, rfl⟩
  rw [hsk] at hi hs ⊢
  obtain ⟨acc, L', E', p, q⟩ := s
  obtain ⟨hL', hE', len, hp1, hq1, -⟩ := hi
  dsimp only at hL' hE' len hp1 hq1 hs ⊢
  have hp0 : q = 0 → p = 0 := fun hq => by
    by_cases h0 : e = 0
    · rw [if_pos h0] at hp1 hq1; rw [hp1]; exact z6 ml L _ (by rw [← hq1]; exact hq)
    · rw [if_neg h0] at hq1; exact absurd (hq1 ▸ hq) h0
  clear hp1 hq1
  subst hL'
  by_cases hq : q = 0
  · subst hq
    rw [if_pos rfl] at hs
    unfold stE at hs
    rw [hgd] at hs
    dsimp only at hs
    have hr := (hf k _ L' E' hy hE' (hsz _ (List.mem_of_getElem? hy))).2.2
    obtain ⟨⟨tx, tl⟩, ht⟩ : ∃ t, ft k L' E' = t := ⟨_, rfl⟩
    rw [ht] at hr hs
    obtain ⟨E2, hE2⟩ : ∃ E2, fE k L' E' = E2 := ⟨_, rfl⟩
    rw [hE2] at hr hs
    obtain ⟨p2, hp2⟩ : ∃ p2, (n8 ml (.mk ax al) L').pl = p2 := ⟨_, rfl⟩
    obtain ⟨q2, hq2⟩ : ∃ q2, (n8 ml (.mk ax al) L').er = q2 := ⟨_, rfl⟩
    rw [hp2, hq2] at hr hs
    have hp := hp0 rfl
    subst hp
    clear hp0
    have b1 : (acc.length + 1) * 72 ≤ 140737488355328 := by omega
    have b2 : acc.length + 1 ≤ 140737488355328 := by omega
    repeat' (first | refine d7 ?_ | refine b9 ?_ | refine a8 ?_ | refine b8 ?_ | refine f7 rfl ?_ | refine f6 rfl ?_ | ((first | refine d6 (fun K hK => ?_) | refine d8 f8 (fun K hK => ?_) | refine b7 (cgS hr 0 rfl ?_) | refine a6 (dgS hr 0 rfl ?_) | fail); simp -implicitDefEqProofs [hkl, hy, hy', w2, b1, b2]) | refine hK _ ?_ | refine hK _ _ (by rfl) ?_ | fail)
    refine ⟨k + 1, by omega, (by dsimp only; omega), ?_⟩
    rw [hI, hs]; exact a17 [27] rfl (by simp -implicitDefEqProofs) (by simp -implicitDefEqProofs) (by decide) rfl (by simp)
  · rw [if_neg hq] at hs
    repeat (first | refine d7 ?_ | refine b9 ?_ | refine a8 ?_ | refine b8 ?_ | refine f7 rfl ?_ | refine f6 rfl ?_ | ((first | refine d6 (fun K hK => ?_) | refine d8 f8 (fun K hK => ?_) | fail); simp -implicitDefEqProofs [hkl, hy, hy', w2, hq]; first | refine hK _ ?_ | refine hK _ _ (by rfl) ?_ | fail) | fail)
    refine ⟨k + 1, by omega, (by dsimp only; omega), ?_⟩
    rw [hI, hs]; exact a17 [4] rfl (by simp -implicitDefEqProofs) (by simp -implicitDefEqProofs) (by decide) rfl (by simp)
theorem okE_at {L E : List ByteArray} (h : OkE L E) {i : Nat} (hi : i < L.length) : E[i]? = L[i]? := by
  have := congrArg (·[i]?) h.1
  simpa [List.getElem?_take, hi] using this
theorem b7v {L : List ByteArray} {s : ByteArray} {i : Nat} (h : L[i]? = some s) (hn : ∀ j t, i < j → L[j]? = some t → t ≠ s) : locS L s = some (L.length - 1 - i) := by
  have hi := (List.getElem?_eq_some_iff.1 h).1
  unfold locS
  rw [List.findIdx?_eq_some_iff_getElem]
  refine ⟨by simp; omega, ?_, fun j hj => ?_⟩
  · rw [List.getElem_reverse]
    have e : L.length - 1 - (L.length - 1 - i) = i := by omega
    simp only [e]
    rw [(List.getElem?_eq_some_iff.1 h).2]; simp
  · rw [List.getElem_reverse]
    have := hn (L.length - 1 - j) _ (by omega) (List.getElem?_eq_getElem (by omega))
    simpa using this
theorem b7u {L : List ByteArray} {s : ByteArray} (hn : ∀ (j : Nat) t, L[j]? = some t → t ≠ s) : locS L s = none := by
  unfold locS
  rw [List.findIdx?_eq_none_iff]
  intro x hx
  obtain ⟨j, hj⟩ := List.mem_iff_getElem?.1 (List.mem_reverse.1 hx)
  simpa using hn j x hj
theorem b8n (ml : List VT) (hml : ml.length ≤ 100000) (L E : List ByteArray) (hE : OkE L E) (hL : L.length ≤ 100000) (x : Lab) : ∃ t', ((b40 ml L x).er = 0 → t' = (b40 ml L x).t) ∧ Row Tryz.prog 130 [vPt, vT (.mk x [])] [bxS 1 2 ml L.length 0 0, arS E, mpS ml] (vT t') [some (bxS 3 2 ml L.length (b40 ml L x).pl (b40 ml L x).er), none, some (mpS ml), some (arS E)] := by
  obtain ⟨g, hg⟩ : ∃ g, b40 ml L x = g := ⟨_, rfl⟩
  obtain ⟨gt, gp, ge⟩ := g
  have hloc : ∀ i : Nat, i < L.length → L[i]? = some x.s → (∀ j t, i < j → L[j]? = some t → t ≠ x.s) → gt = .mk ⟨7, ((L.length - 1 - i : Nat) : Int), ⟨#[]⟩, x.f, x.t⟩ [] ∧ gp = 0 ∧ ge = 0 := fun i _ h1 h2 => by
    unfold b40 at hg
    rw [b7v h1 h2] at hg
    have := (SG.mk.injEq _ _ _ _ _ _).mp hg
    exact ⟨this.1.symm, this.2.1.symm, this.2.2.symm⟩
  have hnon : (∀ (j : Nat) t, L[j]? = some t → t ≠ x.s) → (if a2r ml x.s = 31 then (⟨.mk ⟨8, b0v ml x.s, ⟨#[]⟩, x.f, x.t⟩ [], 0, 0⟩ : SG) else if a2r ml x.s = 32 then ⟨.mk ⟨9, b0v ml x.s, ⟨#[]⟩, x.f, x.t⟩ [], 0, 0⟩ else vt.a1w x 8) = ⟨gt, gp, ge⟩ := fun h => by
    unfold b40 at hg
    rw [b7u h] at hg
    exact hg
  rw [hg]
  dsimp only
  clear hg
  refine ⟨if ge = 0 then gt else .mk ⟨9, 0, ⟨#[]⟩, x.f, x.t⟩ [], fun h => by rw [if_pos h], ?_⟩
  have w0 : IntKind.i64.wrap ((L.length : Nat) - 1 : Int) = (L.length : Nat) - 1 := v6 _ (by omega) (by omega)
  refine e8 Tryz.func130 rfl rfl (Nat.le_of_ble_eq_true rfl) ?_
  repeat (first | refine d7 ?_ | refine b9 ?_ | refine a8 ?_ | refine b8 ?_ | refine f7 rfl ?_ | refine f6 rfl ?_ | ((first | refine d6 (fun K hK => ?_) | refine d8 f8 (fun K hK => ?_) | fail); simp -implicitDefEqProofs [w0]; first | refine hK _ ?_ | refine hK _ _ (by rfl) ?_ | fail) | fail)
  refine l9 1 0 2 _ 9 1 L.length (wsS E) rfl rfl (.inr rfl) (by dsimp only; omega) (by dsimp only; omega) ?_
  simp [St.mvw]
  refine v7 (ι := Nat) (fun k => a0w [(0, vPt), (3, .v (.c (.ptr 4 0))), (4, .v (.c (.ptr 5 0))), (5, vI ((k : Nat) - 1 : Int))] [some (bxS 3 2 ml L.length 0 0), none, some (mpS ml), some (arS E), some (.box (ta (.mk x []))), some zTb]) (fun k => k ≤ L.length ∧ ∀ (j : Nat) t, k ≤ j → L[j]? = some t → t ≠ x.s) (fun k => k) L.length ⟨Nat.le_refl _, fun j t h1 h2 => by have := (List.getElem?_eq_some_iff.1 h2).1; omega⟩ (by exact a17 [3, 4] rfl (by simp -implicitDefEqProofs) (by simp -implicitDefEqProofs) (by decide) rfl (by simp)) (fun Z hI k hk => ?_)
  obtain ⟨hk, hz⟩ := hk
  cases k with
  | succ i =>
    obtain ⟨s, hs⟩ : ∃ s, L[i]? = some s := ⟨_, List.getElem?_eq_getElem (by omega)⟩
    have hEi : E[i]? = some s := by rw [okE_at hE (by omega)]; exact hs
    have hEi' := (List.getElem?_eq_some_iff.1 hEi).2
    have hil := (List.getElem?_eq_some_iff.1 hEi).1
    have i1 : ((i + 1 : Nat) : Int) - 1 = (i : Nat) := by omega
    have i2 : (i : Int) < (L.length : Nat) := by omega
    have i3 : (0 : Int) ≤ (i : Nat) := by omega
    have i4 := hE.2
    have w2 : IntKind.i64.wrap ((i : Nat) - 1 : Int) = (i : Nat) - 1 := v6 _ (by omega) (by omega)
    by_cases c : s = x.s
    · obtain ⟨rfl, rfl, rfl⟩ := hloc i (by omega) (by rw [hs, c]) (fun j t h1 h2 => hz j t (by omega) h2)
      have w3 : IntKind.i64.wrap ((L.length : Nat) - 1 - (i : Nat) : Int) = ((L.length - 1 - i : Nat) : Int) := by rw [v6 _ (by omega) (by omega)]; omega
      have w4 : IntKind.i64.wrap ((L.length - 1 - i : Nat) : Int) = ((L.length - 1 - i : Nat) : Int) := v6 _ (by omega) (by omega)
      have hn := a99
      rw [i1]
      repeat' (first | refine d7 ?_ | refine b9 ?_ | refine a8 ?_ | refine b8 ?_ | refine f7 rfl ?_ | refine f6 rfl ?_ | ((first | refine d6 (fun K hK => ?_) | refine d8 f8 (fun K hK => ?_) | refine b7 (cp hn ?_) | refine a6 (dp hn ?_) | fail); simp -implicitDefEqProofs [i2, i3, i4, hEi, hEi', hil, c, w0, w3, w4]) | refine hK _ ?_ | refine hK _ _ (by rfl) ?_ | fail)
      refine e7 (r8 [] rfl ?_); simp -implicitDefEqProofs [l4, g7, g9] <;> try rfl
    · rw [i1]
      repeat (first | refine d7 ?_ | refine b9 ?_ | refine a8 ?_ | refine b8 ?_ | refine f7 rfl ?_ | refine f6 rfl ?_ | ((first | refine d6 (fun K hK => ?_) | refine d8 f8 (fun K hK => ?_) | fail); simp -implicitDefEqProofs [i2, i3, i4, hEi, hEi', hil, c, w2]; first | refine hK _ ?_ | refine hK _ _ (by rfl) ?_ | fail) | fail)
      refine ⟨i, ⟨by omega, fun j t h1 h2 => ?_⟩, (by dsimp only; omega), ?_⟩
      · by_cases hj : j = i
        · subst hj; rw [hs] at h2; cases h2; exact c
        · exact hz j t (by omega) h2
      · rw [hI]; exact a17 [4, 5] rfl (by simp -implicitDefEqProofs) (by simp -implicitDefEqProofs) (by decide) rfl (by simp)
  | zero =>
    have hn := hnon (fun j t h => hz j t (Nat.zero_le _) h)
    have hp := a15 ml hml L.length 0 0 E x [] [31, 32] (by simp)
    have hnl := a99
    have m1 : ¬ (0 : Int) ≤ -1 := by omega
    by_cases hm : a2r ml x.s ∈ [(31 : Int), 32] ∧ dcl ml x.s ≠ none
    · obtain ⟨d, hd⟩ : ∃ d, dcl ml x.s = some d := by
        cases hq : dcl ml x.s with
        | none => exact absurd hq hm.2
        | some d => exact ⟨d, rfl⟩
      have hdl := b2t hd
      obtain ⟨⟨dx, dl⟩, hda⟩ : ∃ a, ml[d]? = some a := ⟨_, List.getElem?_eq_getElem hdl⟩
      have hda' := (List.getElem?_eq_some_iff.1 hda).2
      have hk : a2r ml x.s = dx.k := by unfold a2r; rw [hd]; simp [hda, Tr.lab]
      have hdi : b0v ml x.s = (d : Nat) := by unfold b0v; rw [hd]
      have d0 : (0 : Int) ≤ (d : Nat) := by omega
      rw [if_pos hm, if_pos hm, if_pos hm, hdi] at hp
      rw [hk, hdi] at hn
      have hm1 := hm.1
      rw [hk] at hm1
      clear hm
      by_cases k31 : dx.k = 31
      · rw [if_pos k31] at hn
        obtain ⟨rfl, rfl, rfl⟩ := (SG.mk.injEq _ _ _ _ _ _).mp hn
        repeat' (first | refine d7 ?_ | refine b9 ?_ | refine a8 ?_ | refine b8 ?_ | refine f7 rfl ?_ | refine f6 rfl ?_ | ((first | refine d6 (fun K hK => ?_) | refine d8 f8 (fun K hK => ?_) | refine b7 (cgS hp 0 rfl ?_) | refine a6 (dgS hp 0 rfl ?_) | refine b7 (cp hnl ?_) | refine a6 (dp hnl ?_) | fail); simp -implicitDefEqProofs [m1, w0, hdl, hda, hda', d0, k31]) | refine hK _ ?_ | refine hK _ _ (by rfl) ?_ | fail)
        refine e7 (r8 [] rfl ?_); simp -implicitDefEqProofs [l4, g7, g9] <;> try rfl
      · rw [if_neg k31] at hn
        have k32 : dx.k = 32 := by simp at hm1; omega
        rw [if_pos k32] at hn
        obtain ⟨rfl, rfl, rfl⟩ := (SG.mk.injEq _ _ _ _ _ _).mp hn
        repeat' (first | refine d7 ?_ | refine b9 ?_ | refine a8 ?_ | refine b8 ?_ | refine f7 rfl ?_ | refine f6 rfl ?_ | ((first | refine d6 (fun K hK => ?_) | refine d8 f8 (fun K hK => ?_) | refine b7 (cgS hp 0 rfl ?_) | refine a6 (dgS hp 0 rfl ?_) | refine b7 (cp hnl ?_) | refine a6 (dp hnl ?_) | fail); simp -implicitDefEqProofs [m1, w0, hdl, hda, hda', d0, k32]) | refine hK _ ?_ | refine hK _ _ (by rfl) ?_ | fail)
        refine e7 (r8 [] rfl ?_); simp -implicitDefEqProofs [l4, g7, g9] <;> try rfl
    · rw [if_neg hm, if_neg hm, if_neg hm, if_pos rfl, if_pos rfl] at hp
      have h31 : ¬ a2r ml x.s = 31 := fun e => hm ⟨by simp [e], fun h => by unfold a2r at e; rw [h] at e; simp at e⟩
      have h32 : ¬ a2r ml x.s = 32 := fun e => hm ⟨by simp [e], fun h => by unfold a2r at e; rw [h] at e; simp at e⟩
      rw [if_neg h31, if_neg h32] at hn
      obtain ⟨rfl, rfl, rfl⟩ := (SG.mk.injEq _ _ _ _ _ _).mp hn
      repeat' (first | refine d7 ?_ | refine b9 ?_ | refine a8 ?_ | refine b8 ?_ | refine f7 rfl ?_ | refine f6 rfl ?_ | ((first | refine d6 (fun K hK => ?_) | refine d8 f8 (fun K hK => ?_) | refine b7 (cgS hp 0 rfl ?_) | refine a6 (dgS hp 0 rfl ?_) | refine b7 (cp hnl ?_) | refine a6 (dp hnl ?_) | fail); simp -implicitDefEqProofs [m1, w0]) | refine hK _ ?_ | refine hK _ _ (by rfl) ?_ | fail)
      refine e7 (r8 [] rfl ?_); simp -implicitDefEqProofs [l4, g7, g9] <;> try rfl
abbrev vSs (W : List ByteArray) : AV := .v (.c (.pv (.sl 1 (wsS W))))
theorem a98 (ml : List VT) (l : List VT) (h : ∀ y ∈ l, TOk ml y) (A : Nat) (Nm : List ByteArray) (L E : List ByteArray) (hE : OkE L E) (hsz : ∀ y ∈ l, L.length + Nm.length + y.size ≤ 100000) (hlen : l.length ≤ 100000) (hL : L.length + Nm.length ≤ 100000) (hA : A ≤ 2) : ∃ acc E', ((thn (s4 ml L (l.take A)) (s4 ml (L ++ Nm) (l.drop A))).2.2 = 0 → acc = (thn (s4 ml L (l.take A)) (s4 ml (L ++ Nm) (l.drop A))).1) ∧ OkE (L ++ Nm) E' ∧ Row Tryz.prog 133 [vPt, vLs l, vI (A : Nat), vSs Nm] [bxS 1 2 ml L.length 0 0, arS E, mpS ml] (vLs acc) [some (bxS 3 2 ml (L.length + Nm.length) (thn (s4 ml L (l.take A)) (s4 ml (L ++ Nm) (l.drop A))).2.1 (thn (s4 ml L (l.take A)) (s4 ml (L ++ Nm) (l.drop A))).2.2), none, some (mpS ml), some (arS E')] ∧ acc.length ≤ l.length := by
  obtain ⟨acc1, E1, a1, a2, a3, r1⟩ := p9 ml (l.take A) (fun y hy => h y (List.mem_of_mem_take hy)) L E hE (fun y hy => by have := hsz y (List.mem_of_mem_take hy); omega) (by rw [List.length_take]; omega) (by omega) 0 0 (fun _ => rfl)
  rw [if_pos rfl, if_pos rfl] at r1
  have hpl := z6 ml L (l.take A)
  have ht1 : ∀ B : LR, thn (s4 ml L (l.take A)) B = if (s4 ml L (l.take A)).2.2 ≠ 0 then ([], (s4 ml L (l.take A)).2) else if B.2.2 ≠ 0 then ([], B.2) else ((s4 ml L (l.take A)).1 ++ B.1, 0, 0) := fun B => rfl
  obtain ⟨G1, hG1⟩ : ∃ G, s4 ml L (l.take A) = G := ⟨_, rfl⟩
  rw [hG1] at r1 a1 hpl ht1 ⊢
  obtain ⟨g1, p1, e1⟩ := G1
  dsimp only at r1 a1 hpl ht1
  have hE2 : OkE (L ++ Nm) (L ++ Nm) := ⟨List.take_length, Nat.le_refl _⟩
  obtain ⟨acc2, E3, b1, b2, b3, r2⟩ := p9 ml (l.drop A) (fun y hy => h y (List.mem_of_mem_drop hy)) (L ++ Nm) (L ++ Nm) hE2 (fun y hy => by have := hsz y (List.mem_of_mem_drop hy); rw [List.length_append]; omega) (by rw [List.length_drop]; omega) (by rw [List.length_append]; omega) p1 e1 hpl
  have hpl2 := z6 ml (L ++ Nm) (l.drop A)
  rw [ht1]
  obtain ⟨G2, hG2⟩ : ∃ G, s4 ml (L ++ Nm) (l.drop A) = G := ⟨_, rfl⟩
  rw [hG2] at r2 b1 hpl2 ⊢
  obtain ⟨g2, p2, e2⟩ := G2
  dsimp only at r2 b1 hpl2 ⊢
  rw [List.length_take] at a2
  rw [List.length_drop] at b2
  obtain ⟨Z, hZ⟩ : ∃ Z : LR, (if e1 ≠ 0 then (([], p1, e1) : LR) else if e2 ≠ 0 then ([], p2, e2) else (g1 ++ g2, 0, 0)) = Z := ⟨_, rfl⟩
  have hZ1 : Z.2.1 = if e1 = 0 then p2 else p1 := by
    rw [← hZ]
    by_cases c : e1 = 0
    · by_cases d : e2 = 0
      · simp [c, d, hpl2 d]
      · simp [c, d]
    · simp [c]
  have hZ2 : Z.2.2 = if e1 = 0 then e2 else e1 := by
    rw [← hZ]
    by_cases c : e1 = 0
    · by_cases d : e2 = 0
      · simp [c, d]
      · simp [c, d]
    · simp [c]
  have hZ3 : Z.2.2 = 0 → acc1 ++ acc2 = Z.1 := fun h => by
    rw [← hZ] at h ⊢
    by_cases c : e1 = 0
    · by_cases d : e2 = 0
      · simp [c, d, a1 rfl c, b1 c d]
      · simp [c, d] at h
    · simp [c] at h
  rw [hZ]
  rw [← hZ1, ← hZ2] at r2
  clear hZ hZ1 hZ2 ht1 b1 a1 hG1 hG2 hpl hpl2
  obtain ⟨z0, z1, z2⟩ := Z
  dsimp only at r2 hZ3 ⊢
  refine ⟨acc1 ++ acc2, E3, hZ3, b3, ?_, by rw [List.length_append]; omega⟩
  have hmin : (if l.length < A then (l.length : Int) else (A : Nat)) = ((min A l.length : Nat) : Int) := by
    by_cases c : l.length < A
    · rw [if_pos c]; omega
    · rw [if_neg c]; omega
  obtain ⟨B, hB⟩ : ∃ B, min A l.length = B := ⟨_, rfl⟩
  rw [hB] at hmin
  have hBl : B ≤ l.length := by omega
  have hBl' : (B : Int) ≤ (l.length : Nat) := by omega
  have hB0 : (0 : Int) ≤ (B : Nat) := by omega
  have ht : l.take A = l.take B := by rw [← hB]; simp [List.take_eq_take_iff]
  have hd : l.drop A = l.drop B := by
    rw [← hB]
    by_cases c : A ≤ l.length
    · rw [Nat.min_eq_left c]
    · rw [Nat.min_eq_right (by omega), List.drop_length, List.drop_eq_nil_of_le (by omega)]
  rw [ht] at r1
  rw [hd] at r2
  have hw : (wsS E1).take L.length = wsS L := by rw [← List.map_take, a3.1]
  have i4 := a3.2
  have c1 : (L.length + Nm.length) * 16 ≤ 140737488355328 := by omega
  have c2 : L.length + Nm.length ≤ 140737488355328 := by omega
  have c3 : (acc1.length + acc2.length) * 72 ≤ 140737488355328 := by omega
  have c4 : acc1.length + acc2.length ≤ 140737488355328 := by omega
  have hln : (L ++ Nm).length = L.length + Nm.length := List.length_append
  rw [hln] at r2
  refine e8 Tryz.func133 rfl rfl (Nat.le_of_ble_eq_true rfl) ?_
  refine d7 ?_; (first | refine d6 (fun K hK => ?_) | refine d8 f8 (fun K hK => ?_) | fail); simp -implicitDefEqProofs [hmin, hBl, hBl', hB0]; repeat' (first | refine hK _ ?_ | refine hK _ _ (by rfl) ?_ | ((first | fail); simp -implicitDefEqProofs [hmin, hBl, hBl', hB0]) | fail)
  refine d7 ?_; (first | refine d6 (fun K hK => ?_) | refine d8 f8 (fun K hK => ?_) | fail); simp -implicitDefEqProofs [hmin, hBl, hBl', hB0]; repeat' (first | refine hK _ ?_ | refine hK _ _ (by rfl) ?_ | ((first | fail); simp -implicitDefEqProofs [hmin, hBl, hBl', hB0]) | fail)
  refine d7 ?_; (first | refine d6 (fun K hK => ?_) | refine d8 f8 (fun K hK => ?_) | fail); simp -implicitDefEqProofs [hmin, hBl, hBl', hB0]; repeat' (first | refine hK _ ?_ | refine hK _ _ (by rfl) ?_ | ((first | refine b7 (cgS r1 0 rfl ?_) | refine a6 (dgS r1 0 rfl ?_) | fail); simp -implicitDefEqProofs [hmin, hBl, hBl', hB0]) | fail)
  refine d7 ?_; (first | refine d6 (fun K hK => ?_) | refine d8 f8 (fun K hK => ?_) | fail); simp -implicitDefEqProofs [hmin, hw, i4, c1, c2]; repeat' (first | refine hK _ ?_ | refine hK _ _ (by rfl) ?_ | ((first | fail); simp -implicitDefEqProofs [hmin, hw, i4, c1, c2]) | fail)
  refine l9 28 0 2 _ 9 1 (L.length + Nm.length) (wsS L ++ wsS Nm) rfl rfl (.inl rfl) (by dsimp only; omega) (by dsimp only; omega) ?_
  simp [St.mvw]
  repeat' (first | refine d7 ?_ | refine b9 ?_ | refine a8 ?_ | refine b8 ?_ | refine f7 rfl ?_ | refine f6 rfl ?_ | ((first | refine d6 (fun K hK => ?_) | refine d8 f8 (fun K hK => ?_) | refine b7 (cgS r2 0 rfl ?_) | refine a6 (dgS r2 0 rfl ?_) | fail); simp -implicitDefEqProofs [hBl, hBl', hB0, c3, c4]) | refine hK _ ?_ | refine hK _ _ (by rfl) ?_ | fail)
  refine e7 (r8 [] rfl ?_); simp -implicitDefEqProofs [l4, g7, g9] <;> try rfl
noncomputable def stB (ml l : List VT) (ft : Nat → List ByteArray → List ByteArray → VT) (fE : Nat → List ByteArray → List ByteArray → List ByteArray) (k : Nat) (s : Sq) : Sq := ⟨s.acc ++ [ft k s.L s.E], a0i s.L (l.getD k z0T), if (l.getD k z0T).lab.k = 20 ∨ (l.getD k z0T).lab.k = 21 then s.L ++ [(l.getD k z0T).lab.s] else fE k s.L s.E, (n8 ml (l.getD k z0T) s.L).pl, (n8 ml (l.getD k z0T) s.L).er⟩
structure InvB (ml l : List VT) (L : List ByteArray) (k : Nat) (s : Sq) : Prop where
  hL : ∃ j, j ≤ k ∧ s.L = a57 L (l.take j)
  hE : OkE s.L s.E
  len : s.acc.length ≤ k
  pl : s.pl = (a4e ml L (l.take k)).2.1
  er : s.er = (a4e ml L (l.take k)).2.2
  acc : s.er = 0 → s.acc = (a4e ml L (l.take k)).1 ∧ s.L = a57 L (l.take k)
theorem b3w {stp : Nat → Sq → Sq} {s0 : Sq} {k : Nat} (h : (sqN stp s0 k).er ≠ 0) : ∀ j, sqN stp s0 (k + j) = sqN stp s0 k
  | 0 => rfl
  | j + 1 => by
    show (if (sqN stp s0 (k + j)).er = 0 then stp (k + j) (sqN stp s0 (k + j)) else sqN stp s0 (k + j)) = _
    rw [b3w h j, if_neg h]
theorem b8r {ml l : List VT} {L E : List ByteArray} (hE : OkE L E) (hsz : ∀ y ∈ l, L.length + l.length + y.size ≤ 100000) {ft : Nat → List ByteArray → List ByteArray → VT} {fE : Nat → List ByteArray → List ByteArray → List ByteArray} (hf : ∀ k y L E, l[k]? = some y → OkE L E → L.length + y.size ≤ 100000 → ((n8 ml y L).er = 0 → ft k L E = (n8 ml y L).t) ∧ OkE L (fE k L E)) : ∀ k, k ≤ l.length → InvB ml l L k (sqN (stB ml l ft fE) ⟨[], L, E, 0, 0⟩ k)
  | 0, _ => ⟨⟨0, Nat.le_refl _, rfl⟩, hE, Nat.le_refl _, rfl, rfl, fun _ => ⟨rfl, rfl⟩⟩
  | k + 1, hk => by
    have ih := b8r hE hsz hf k (by omega)
    obtain ⟨y, hy⟩ : ∃ y, l[k]? = some y := ⟨_, List.getElem?_eq_getElem (by omega)⟩
    have hgd : l.getD k z0T = y := by rw [List.getD_eq_getElem?_getD, hy]; rfl
    have htk : l.take (k + 1) = l.take k ++ [y] := by rw [List.take_add_one, hy]; rfl
    unfold sqN
    generalize sqN (stB ml l ft fE) ⟨[], L, E, 0, 0⟩ k = s at ih
    obtain ⟨⟨j0, hj0, hL⟩, hE', len, pl, er, acc⟩ := ih
    have hbl := a4g (l.take j0) L
    rw [← hL] at hbl
    have hl1 : s.L.length + y.size ≤ 100000 := by
      have := hsz y (List.mem_of_getElem? hy)
      have h2 := hbl.2.2
      rw [List.length_take] at h2
      omega
    have hs := a9h ml y (l.take k) L
    rw [← htk] at hs
    by_cases h : s.er = 0
    · rw [if_pos h]
      obtain ⟨q1, q2⟩ := acc h
      unfold stB
      rw [hgd]
      obtain ⟨g1, g2⟩ := hf k y s.L s.E hy hE' hl1
      rw [if_neg (by rw [← er]; simpa using h), ← q2] at hs
      have hbs : a0i s.L y = a57 L (l.take (k + 1)) := by rw [htk, b6u, ← q2]
      have hok : OkE (a0i s.L y) (if y.lab.k = 20 ∨ y.lab.k = 21 then s.L ++ [y.lab.s] else fE k s.L s.E) := by
        unfold a0i
        by_cases c : y.lab.k = 20 ∨ y.lab.k = 21
        · rw [if_pos c, if_pos c]; exact ⟨List.take_length, Nat.le_refl _⟩
        · rw [if_neg c, if_neg c]; exact g2
      by_cases h2 : (n8 ml y s.L).er = 0
      · rw [if_neg (by simpa using h2)] at hs
        refine ⟨⟨k + 1, Nat.le_refl _, hbs⟩, hok, by simp; omega, ?_, ?_, fun _ => ⟨?_, hbs⟩⟩
        · dsimp only; rw [hs]; exact b6h ml y s.L h2
        · dsimp only; rw [hs]; exact h2
        · dsimp only; rw [hs, q1, g1 h2]
      · rw [if_pos h2] at hs
        refine ⟨⟨k + 1, Nat.le_refl _, hbs⟩, hok, by simp; omega, ?_, ?_, fun h3 => absurd h3 h2⟩
        · dsimp only; rw [hs]
        · dsimp only; rw [hs]
    · rw [if_neg h]
      rw [if_pos (by rw [← er]; exact h)] at hs
      exact ⟨⟨j0, by omega, hL⟩, hE', by omega, by rw [hs]; exact pl, by rw [hs]; exact er, fun h3 => absurd h3 h⟩
theorem b5d (ml : List VT) (l : List VT) (h : ∀ y ∈ l, TOk ml y) (L E : List ByteArray) (hE : OkE L E) (hsz : ∀ y ∈ l, L.length + l.length + y.size ≤ 100000) (hlen : L.length + l.length ≤ 100000) : ∃ acc L' E', ((a4e ml L l).2.2 = 0 → acc = (a4e ml L l).1) ∧ L'.take L.length = L ∧ L.length ≤ L'.length ∧ L'.length ≤ L.length + l.length ∧ OkE L' E' ∧ Row Tryz.prog 132 [vPt, vLs l] [bxS 1 2 ml L.length 0 0, arS E, mpS ml] (vLs acc) [some (bxS 3 2 ml L'.length (a4e ml L l).2.1 (a4e ml L l).2.2), none, some (mpS ml), some (arS E')] := by
  obtain ⟨ft, fE, hf⟩ := b86 h
  have hinv := b8r (ml := ml) (l := l) hE hsz (fun k y L E h1 h2 h3 => ⟨(hf k y L E h1 h2 h3).1, (hf k y L E h1 h2 h3).2.1⟩)
  have hstp : ∀ k, sqN (stB ml l ft fE) ⟨[], L, E, 0, 0⟩ (k + 1) = if (sqN (stB ml l ft fE) ⟨[], L, E, 0, 0⟩ k).er = 0 then stB ml l ft fE k (sqN (stB ml l ft fE) ⟨[], L, E, 0, 0⟩ k) else sqN (stB ml l ft fE) ⟨[], L, E, 0, 0⟩ k := fun k => rfl
  have hstay : ∀ k, (sqN (stB ml l ft fE) ⟨[], L, E, 0, 0⟩ k).er ≠ 0 → ∀ j, sqN (stB ml l ft fE) ⟨[], L, E, 0, 0⟩ (k + j) = sqN (stB ml l ft fE) ⟨[], L, E, 0, 0⟩ k := fun k h => b3w h
  have h00 : sqN (stB ml l ft fE) ⟨[], L, E, 0, 0⟩ 0 = ⟨[], L, E, 0, 0⟩ := rfl
  obtain ⟨S, hS⟩ : ∃ S, sqN (stB ml l ft fE) ⟨[], L, E, 0, 0⟩ = S := ⟨_, rfl⟩
  rw [hS] at hinv hstp h00 hstay
  have hend := hinv l.length (Nat.le_refl _)
  have hend2 := hend.hL
  obtain ⟨j0, hj0, hbr⟩ := hend2
  have hbl := a4g (l.take j0) L
  rw [← hbr, List.length_take] at hbl
  refine ⟨if (S (l.length - 1)).er ≠ 0 then [] else (S l.length).acc, (S l.length).L, (S l.length).E, fun h1 => ?_, hbl.1, hbl.2.1, by have := hbl.2.2; omega, hend.hE, ?_⟩
  · have e2 := hend.er
    rw [List.take_length] at e2
    have h2 : (S l.length).er = 0 := by rw [e2]; exact h1
    have := (hend.acc h2).1
    rw [List.take_length] at this
    rw [if_neg]
    · exact this
    · intro hne
      have := hstay (l.length - 1) hne (l.length - (l.length - 1))
      rw [show l.length - 1 + (l.length - (l.length - 1)) = l.length by omega] at this
      rw [this] at h2
      exact hne h2
  have e1 := hend.pl
  have e2 := hend.er
  rw [List.take_length] at e1 e2
  rw [← e1, ← e2]
  clear e1 e2 hend hS hbl hbr
  obtain ⟨R, hR⟩ : ∃ R, (if (S (l.length - 1)).er ≠ 0 then [] else (S l.length).acc) = R := ⟨_, rfl⟩
  have hR1 : ∀ k, k < l.length → (S k).er ≠ 0 → R = [] ∧ S l.length = S k := fun k hk h => by
    have := hstay k h (l.length - 1 - k)
    rw [show k + (l.length - 1 - k) = l.length - 1 by omega] at this
    have t2 := hstay k h (l.length - k)
    rw [show k + (l.length - k) = l.length by omega] at t2
    exact ⟨by rw [← hR, if_pos (by rw [this]; exact h)], t2⟩
  have hR2 : (0 < l.length → (S (l.length - 1)).er = 0) → R = (S l.length).acc := fun h => by
    rw [← hR, if_neg]
    intro hne
    by_cases c : 0 < l.length
    · exact hne (h c)
    · rw [show l.length - 1 = 0 by omega, h00] at hne; exact hne rfl
  rw [hR]
  clear hR hstay
  have c1 : (S 0).acc = [] := by rw [h00]
  have c2 : (S 0).E = E := by rw [h00]
  have c3 : (S 0).pl = 0 := by rw [h00]
  have c4 : (S 0).er = 0 := by rw [h00]
  have c5 : (S 0).L = L := by rw [h00]
  refine e8 Tryz.func132 rfl rfl (Nat.le_of_ble_eq_true rfl) ?_
  repeat (first | refine d7 ?_ | refine b9 ?_ | refine a8 ?_ | refine b8 ?_ | refine f7 rfl ?_ | refine f6 rfl ?_ | ((first | refine d6 (fun K hK => ?_) | refine d8 f8 (fun K hK => ?_) | fail); simp -implicitDefEqProofs; first | refine hK _ ?_ | refine hK _ _ (by rfl) ?_ | fail) | fail)
  refine l9 1 0 2 _ 9 1 L.length (wsS E) rfl rfl (.inr rfl) (by dsimp only; omega) (by dsimp only; omega) ?_
  simp [St.mvw]
  refine a9f 5 24 6 (by simp) ?_
  refine v7 (ι := Nat) (fun k => a0w [(0, vPt), (5, .v (.c (.row 4 6 ((S k).acc.map tc)))), (8, vLs l), (9, vI (l.length : Nat)), (10, vI (k : Nat))] [some (bxS 3 2 ml (S k).L.length (S k).pl (S k).er), none, some (mpS ml), some (arS (S k).E), some (.row 24 6)]) (fun k => k ≤ l.length ∧ (0 < k → (S (k - 1)).er = 0)) (fun k => l.length - k) 0 ⟨Nat.zero_le _, fun h => by omega⟩ (by rw [c1, c2, c3, c4, c5]; unfold St.nil; exact a17 [9] rfl (by simp -implicitDefEqProofs) (by simp -implicitDefEqProofs) (by first | decide | (simp; done)) rfl (by simp)) (fun Z hI k hk => ?_)
  obtain ⟨hk, hpre⟩ := hk
  by_cases hkl : k < l.length; rotate_left
  · have : k = l.length := by omega
    subst this
    rw [hR2 hpre]
    clear hR1 hR2
    repeat (first | refine d7 ?_ | refine b9 ?_ | refine a8 ?_ | refine b8 ?_ | refine f7 rfl ?_ | refine f6 rfl ?_ | ((first | refine d6 (fun K hK => ?_) | refine d8 f8 (fun K hK => ?_) | fail); simp -implicitDefEqProofs; first | refine hK _ ?_ | refine hK _ _ (by rfl) ?_ | fail) | fail)
    refine e7 (r8 [] rfl ?_); simp -implicitDefEqProofs [l4, g7, g9] <;> try rfl
  obtain ⟨⟨ax, al⟩, hy⟩ : ∃ a, l[k]? = some a := ⟨_, List.getElem?_eq_getElem hkl⟩
  have hy' := (List.getElem?_eq_some_iff.1 hy).2
  have w2 : IntKind.i64.wrap ((k : Nat) + 1 : Int) = (k : Nat) + 1 := v6 _ (by omega) (by omega)
  have hi := hinv k hk
  have hs := hstp k
  have hgd : l.getD k z0T = .mk ax al := by rw [List.getD_eq_getElem?_getD, hy]; rfl
  by_cases hq : (S k).er = 0; rotate_left
  · obtain ⟨rR, rS⟩ := hR1 k hkl hq
    subst rR
    rw [rS]
    clear hR1 hR2 hs hinv hstp c1 c2 c3 c4 c5 h00 rS hi hpre
    repeat (first | refine d7 ?_ | refine b9 ?_ | refine a8 ?_ | refine b8 ?_ | refine f7 rfl ?_ | refine f6 rfl ?_ | ((first | refine d6 (fun K hK => ?_) | refine d8 f8 (fun K hK => ?_) | fail); simp -implicitDefEqProofs [hkl, hy, hy', w2, hq]; first | refine hK _ ?_ | refine hK _ _ (by rfl) ?_ | fail) | fail)
    refine e7 (r8 [] rfl ?_); simp -implicitDefEqProofs [l4, g7, g9] <;> try rfl
  clear hR1 hR2
  have hpl : (S k).pl = 0 := by rw [hi.pl]; exact b6s ml _ L (by rw [← hi.er]; exact hq)
  obtain ⟨jj, hjj, hbr⟩ := hi.hL
  have hbl := a4g (l.take jj) L
  rw [← hbr, List.length_take] at hbl
  obtain ⟨s, hsk⟩ : ∃ s, S k = s := ⟨_, rfl⟩
  rw [hsk] at hi hs hq hpl hbl ⊢
  obtain ⟨acc, L', E', p, q⟩ := s
  have hE' := hi.hE
  have len := hi.len
  dsimp only at hE' len hs hq hpl hbl ⊢
  subst hq
  subst hpl
  clear hi hbr
  have hsy := hsz _ (List.mem_of_getElem? hy)
  rw [if_pos rfl] at hs
  unfold stB at hs
  rw [hgd] at hs
  dsimp only at hs
  have hr := (hf k _ L' E' hy hE' (by omega)).2
  obtain ⟨hr1, hr⟩ := hr
  obtain ⟨⟨tx, tl⟩, ht⟩ : ∃ t, ft k L' E' = t := ⟨_, rfl⟩
  rw [ht] at hr hs
  obtain ⟨E2, hE2⟩ : ∃ E2, fE k L' E' = E2 := ⟨_, rfl⟩
  rw [hE2] at hr hs hr1
  obtain ⟨p2, hp2⟩ : ∃ p2, (n8 ml (.mk ax al) L').pl = p2 := ⟨_, rfl⟩
  obtain ⟨q2, hq2⟩ : ∃ q2, (n8 ml (.mk ax al) L').er = q2 := ⟨_, rfl⟩
  rw [hp2, hq2] at hr hs
  have b1 : (acc.length + 1) * 72 ≤ 140737488355328 := by omega
  have b2 : acc.length + 1 ≤ 140737488355328 := by omega
  have b3 : (L'.length + 1) * 16 ≤ 140737488355328 := by omega
  have b4 : L'.length + 1 ≤ 140737488355328 := by omega
  have i4 := hr1.2
  have hw : (wsS E2).take L'.length = wsS L' := by rw [← List.map_take, hr1.1]
  have hpre' : 0 < k + 1 → (S (k + 1 - 1)).er = 0 := fun _ => by rw [Nat.add_sub_cancel, hsk]
  rw [Tr.lab] at hs
  by_cases k20 : ax.k = 20
  · unfold a0i at hs
    rw [Tr.lab, if_pos (.inl k20), if_pos (.inl k20)] at hs
    repeat' (first | refine d7 ?_ | refine b9 ?_ | refine a8 ?_ | refine b8 ?_ | refine f7 rfl ?_ | refine f6 rfl ?_ | ((first | refine d6 (fun K hK => ?_) | refine d8 f8 (fun K hK => ?_) | refine b7 (cgS hr 0 rfl ?_) | refine a6 (dgS hr 0 rfl ?_) | fail); simp -implicitDefEqProofs [hkl, hy, hy', w2, b1, b2, b3, b4, i4, hw, k20]) | refine hK _ ?_ | refine hK _ _ (by rfl) ?_ | fail)
    refine ⟨k + 1, ⟨by omega, hpre'⟩, (by dsimp only; omega), ?_⟩
    rw [hI, hs]
    refine b6z 0 2 rfl rfl rfl (by dsimp only; omega) (by dsimp only; omega) ?_
    exact a17 [27] rfl (by simp -implicitDefEqProofs [St.mvw]) (by simp -implicitDefEqProofs [St.mvw]) (by first | decide | (simp; done)) rfl (by simp)
  by_cases k21 : ax.k = 21
  · unfold a0i at hs
    rw [Tr.lab, if_pos (.inr k21), if_pos (.inr k21)] at hs
    repeat' (first | refine d7 ?_ | refine b9 ?_ | refine a8 ?_ | refine b8 ?_ | refine f7 rfl ?_ | refine f6 rfl ?_ | ((first | refine d6 (fun K hK => ?_) | refine d8 f8 (fun K hK => ?_) | refine b7 (cgS hr 0 rfl ?_) | refine a6 (dgS hr 0 rfl ?_) | fail); simp -implicitDefEqProofs [hkl, hy, hy', w2, b1, b2, b3, b4, i4, hw, k20, k21]) | refine hK _ ?_ | refine hK _ _ (by rfl) ?_ | fail)
    refine ⟨k + 1, ⟨by omega, hpre'⟩, (by dsimp only; omega), ?_⟩
    rw [hI, hs]
    refine b6z 0 2 rfl rfl rfl (by dsimp only; omega) (by dsimp only; omega) ?_
    exact a17 [27] rfl (by simp -implicitDefEqProofs [St.mvw]) (by simp -implicitDefEqProofs [St.mvw]) (by first | decide | (simp; done)) rfl (by simp)
  · have hno : ¬ (ax.k = 20 ∨ ax.k = 21) := by omega
    unfold a0i at hs
    rw [Tr.lab, if_neg hno, if_neg hno] at hs
    repeat' (first | refine d7 ?_ | refine b9 ?_ | refine a8 ?_ | refine b8 ?_ | refine f7 rfl ?_ | refine f6 rfl ?_ | ((first | refine d6 (fun K hK => ?_) | refine d8 f8 (fun K hK => ?_) | refine b7 (cgS hr 0 rfl ?_) | refine a6 (dgS hr 0 rfl ?_) | fail); simp -implicitDefEqProofs [hkl, hy, hy', w2, b1, b2, k20, k21]) | refine hK _ ?_ | refine hK _ _ (by rfl) ?_ | fail)
    refine ⟨k + 1, ⟨by omega, hpre'⟩, (by dsimp only; omega), ?_⟩
    rw [hI, hs]; exact a17 [27] rfl (by simp -implicitDefEqProofs) (by simp -implicitDefEqProofs) (by first | decide | (simp; done)) rfl (by simp)
end Go.Proofs.YthmdllhhmhbhbaaGreatDoor.am
end
