import Derived.Test.YtbbkmijkllgfaaaGreatDoorPkL17
import Derived.Test.YtbbkmijkllgfaaaGreatDoorPkL11
import Derived.Test.YtbbkmijkllgfaaaGreatDoorPkL15
import Derived.Test.YtbbkmijkllgfaaaGreatDoorPkL4
import Derived.Test.YtbbkmijkllgfaaaGreatDoorPkL3
set_option maxRecDepth 100000
set_option maxHeartbeats 4000000
section
namespace Go.Proofs.YtbbkmijkllgfaaaGreatDoor.am
open Go.ChangeShapes Go.WideShapes Go.ChangeAt Go.RowKit
open vt
set_option linter.unusedVariables false
set_option linter.unusedSimpArgs false
structure Sq where
  acc : List VT
  L : List ByteArray
  E : List ByteArray
  pl : Int
  er : Int
noncomputable def sqN (stp : Nat → Sq → Sq) (s0 : Sq) : Nat → Sq
  | 0 => s0
  | k + 1 => if (sqN stp s0 k).er = 0 then stp k (sqN stp s0 k) else sqN stp s0 k
def OkE (L E : List ByteArray) : Prop := E.take L.length = L ∧ L.length ≤ E.length
def TOk (ml : List VT) (t : VT) : Prop := ∀ (L E : List ByteArray), OkE L E → L.length + t.size ≤ 100000 → ∃ t' E', ((r8 ml t L).er = 0 → t' = (r8 ml t L).t) ∧ OkE L E' ∧ Row Tryz.prog 74 [vPt, vT t] [bxS 1 2 ml L.length 0 0, arS E, mpS ml] (vT t') [some (bxS 3 2 ml L.length (r8 ml t L).pl (r8 ml t L).er), none, some (mpS ml), some (arS E')]
theorem c6n {ml l : List VT} (h : ∀ y ∈ l, TOk ml y) : ∃ (ft : Nat → List ByteArray → List ByteArray → VT) (fE : Nat → List ByteArray → List ByteArray → List ByteArray), ∀ k y L E, l[k]? = some y → OkE L E → L.length + y.size ≤ 100000 → ((r8 ml y L).er = 0 → ft k L E = (r8 ml y L).t) ∧ OkE L (fE k L E) ∧ Row Tryz.prog 74 [vPt, vT y] [bxS 1 2 ml L.length 0 0, arS E, mpS ml] (vT (ft k L E)) [some (bxS 3 2 ml L.length (r8 ml y L).pl (r8 ml y L).er), none, some (mpS ml), some (arS (fE k L E))] := by
  have key : ∀ (k : Nat) (L E : List ByteArray), ∃ t' E', ∀ y, l[k]? = some y → OkE L E → L.length + y.size ≤ 100000 → ((r8 ml y L).er = 0 → t' = (r8 ml y L).t) ∧ OkE L E' ∧ Row Tryz.prog 74 [vPt, vT y] [bxS 1 2 ml L.length 0 0, arS E, mpS ml] (vT t') [some (bxS 3 2 ml L.length (r8 ml y L).pl (r8 ml y L).er), none, some (mpS ml), some (arS E')] := by
    intro k L E
    by_cases hc : ∃ y, l[k]? = some y ∧ OkE L E ∧ L.length + y.size ≤ 100000
    · obtain ⟨y, h1, h2, h3⟩ := hc
      obtain ⟨t', E', h4⟩ := h y (List.mem_of_getElem? h1) L E h2 h3
      exact ⟨t', E', fun z hz _ _ => by rw [h1] at hz; cases hz; exact h4⟩
    · exact ⟨z0T, [], fun y h1 h2 h3 => absurd ⟨y, h1, h2, h3⟩ hc⟩
  exact ⟨fun k L E => Classical.choose (key k L E), fun k L E => Classical.choose (Classical.choose_spec (key k L E)), fun k y L E h1 h2 h3 => Classical.choose_spec (Classical.choose_spec (key k L E)) y h1 h2 h3⟩
noncomputable def stE (ml l : List VT) (ft : Nat → List ByteArray → List ByteArray → VT) (fE : Nat → List ByteArray → List ByteArray → List ByteArray) (k : Nat) (s : Sq) : Sq := ⟨s.acc ++ [ft k s.L s.E], s.L, fE k s.L s.E, (r8 ml (l.getD k z0T) s.L).pl, (r8 ml (l.getD k z0T) s.L).er⟩
structure InvE (ml l : List VT) (L : List ByteArray) (a e : Int) (k : Nat) (s : Sq) : Prop where
  hL : s.L = L
  hE : OkE L s.E
  len : s.acc.length ≤ k
  pl : s.pl = if e = 0 then (a2o ml L (l.take k)).2.1 else a
  er : s.er = if e = 0 then (a2o ml L (l.take k)).2.2 else e
  acc : e = 0 → (a2o ml L (l.take k)).2.2 = 0 → s.acc = (a2o ml L (l.take k)).1
theorem b9d {ml l : List VT} {L E : List ByteArray} {a e : Int} (ha : e = 0 → a = 0) (hE : OkE L E) (hsz : ∀ y ∈ l, L.length + y.size ≤ 100000) {ft : Nat → List ByteArray → List ByteArray → VT} {fE : Nat → List ByteArray → List ByteArray → List ByteArray} (hf : ∀ k y L E, l[k]? = some y → OkE L E → L.length + y.size ≤ 100000 → ((r8 ml y L).er = 0 → ft k L E = (r8 ml y L).t) ∧ OkE L (fE k L E)) : ∀ k, k ≤ l.length → InvE ml l L a e k (sqN (stE ml l ft fE) ⟨[], L, E, a, e⟩ k)
  | 0, _ => ⟨rfl, hE, Nat.le_refl _, by
      show a = _
      by_cases h : e = 0
      · rw [if_pos h, ha h]; rfl
      · rw [if_neg h], by
      show e = _
      by_cases h : e = 0
      · rw [if_pos h, h]; rfl
      · rw [if_neg h], fun _ _ => rfl⟩
  | k + 1, hk => by
    have ih := b9d ha hE hsz hf k (by omega)
    obtain ⟨y, hy⟩ : ∃ y, l[k]? = some y := ⟨_, List.getElem?_eq_getElem (by omega)⟩
    have hgd : l.getD k z0T = y := by rw [List.getD_eq_getElem?_getD, hy]; rfl
    have htk : l.take (k + 1) = l.take k ++ [y] := by rw [List.take_add_one, hy]; rfl
    unfold sqN
    generalize sqN (stE ml l ft fE) ⟨[], L, E, a, e⟩ k = s at ih
    obtain ⟨hL, hE', len, pl, er, acc⟩ := ih
    by_cases h : s.er = 0
    · rw [if_pos h]
      unfold stE
      rw [hgd, hL]
      obtain ⟨g1, g2⟩ := hf k y L s.E hy hE' (hsz y (List.mem_of_getElem? hy))
      by_cases h0 : e = 0
      · rw [if_pos h0] at pl er
        have h1 : (a2o ml L (l.take k)).2.2 = 0 := by rw [← er]; exact h
        have hs := a02 ml L y (l.take k)
        rw [if_neg (by simpa using h1), ← htk] at hs
        by_cases h2 : (r8 ml y L).er = 0
        · rw [if_neg (by simpa using h2)] at hs
          refine ⟨rfl, g2, by simp; omega, ?_, ?_, fun _ _ => ?_⟩
          · dsimp only; rw [if_pos h0, hs]; exact c3d ml y L h2
          · dsimp only; rw [if_pos h0, hs]; exact h2
          · dsimp only; rw [hs, acc h0 h1, g1 h2]
        · rw [if_pos h2] at hs
          refine ⟨rfl, g2, by simp; omega, ?_, ?_, fun _ h3 => ?_⟩
          · dsimp only; rw [if_pos h0, hs]
          · dsimp only; rw [if_pos h0, hs]
          · rw [hs] at h3; exact absurd h3 h2
      · rw [if_neg h0] at er
        exact absurd (er ▸ h) h0
    · rw [if_neg h]
      refine ⟨hL, hE', by omega, ?_, ?_, fun h0 h3 => ?_⟩
      · by_cases h0 : e = 0
        · rw [if_pos h0] at pl er ⊢
          rw [htk, a02, if_pos (by rw [← er]; exact h)]; exact pl
        · rw [if_neg h0] at pl ⊢; exact pl
      · by_cases h0 : e = 0
        · rw [if_pos h0] at er ⊢
          rw [htk, a02, if_pos (by rw [← er]; exact h)]; exact er
        · rw [if_neg h0] at er ⊢; exact er
      · rw [if_pos h0] at er
        rw [htk, a02, if_pos (by rw [← er]; exact h)] at h3
        exact absurd h3 (by rw [← er]; exact h)
theorem b86 (ml : List VT) (l : List VT) (h : ∀ y ∈ l, TOk ml y) (L E : List ByteArray) (hE : OkE L E) (hsz : ∀ y ∈ l, L.length + y.size ≤ 100000) (hlen : l.length ≤ 100000) (hL : L.length ≤ 100000) (a e : Int) (ha : e = 0 → a = 0) : ∃ acc E', (e = 0 → (a2o ml L l).2.2 = 0 → acc = (a2o ml L l).1) ∧ acc.length ≤ l.length ∧ OkE L E' ∧ Row Tryz.prog 113 [vPt, vLs l] [bxS 1 2 ml L.length a e, arS E, mpS ml] (.v (.c (.row 4 6 (acc.map tc)))) [some (bxS 3 2 ml L.length (if e = 0 then (a2o ml L l).2.1 else a) (if e = 0 then (a2o ml L l).2.2 else e)), none, some (mpS ml), some (arS E'), some (.row 24 6)] := by
  obtain ⟨ft, fE, hf⟩ := c6n h
  have hinv := b9d (ml := ml) (l := l) ha hE hsz (fun k y L E h1 h2 h3 => ⟨(hf k y L E h1 h2 h3).1, (hf k y L E h1 h2 h3).2.1⟩)
  have hstp : ∀ k, sqN (stE ml l ft fE) ⟨[], L, E, a, e⟩ (k + 1) = if (sqN (stE ml l ft fE) ⟨[], L, E, a, e⟩ k).er = 0 then stE ml l ft fE k (sqN (stE ml l ft fE) ⟨[], L, E, a, e⟩ k) else sqN (stE ml l ft fE) ⟨[], L, E, a, e⟩ k := fun k => rfl
  have h00 : sqN (stE ml l ft fE) ⟨[], L, E, a, e⟩ 0 = ⟨[], L, E, a, e⟩ := rfl
  obtain ⟨S, hS⟩ : ∃ S, sqN (stE ml l ft fE) ⟨[], L, E, a, e⟩ = S := ⟨_, rfl⟩
  rw [hS] at hinv hstp h00
  have hend := hinv l.length (Nat.le_refl _)
  refine ⟨(S l.length).acc, (S l.length).E, fun h0 h1 => ?_, hend.len, hend.hE, ?_⟩
  · have := hend.acc h0 (by rw [List.take_length]; exact h1)
    rw [List.take_length] at this; exact this
  have e1 := hend.pl
  have e2 := hend.er
  rw [List.take_length] at e1 e2
  rw [← e1, ← e2]
  clear e1 e2 hend hS
  have c1 : (S 0).acc = [] := by rw [h00]
  have c2 : (S 0).E = E := by rw [h00]
  have c3 : (S 0).pl = a := by rw [h00]
  have c4 : (S 0).er = e := by rw [h00]
  refine d7 Tryz.func113 rfl rfl (Nat.le_of_ble_eq_true rfl) ?_
  repeat (first | refine b9 ?_ | refine b6 ?_ | refine a6 ?_ | refine b5 ?_ | refine e7 rfl ?_ | refine d9 rfl ?_ | ((first | refine b8 (fun K hK => ?_) | refine d3 e9 (fun K hK => ?_) | fail); simp -implicitDefEqProofs; first | refine hK _ ?_ | refine hK _ _ (by rfl) ?_ | fail) | fail)
  refine a38 1 0 2 _ 9 1 L.length (wsS E) rfl rfl (.inr rfl) (by dsimp only; omega) (by dsimp only; omega) ?_
  simp [St.mvw]
  refine b17 5 24 6 (by simp) ?_
  refine m6 (ι := Nat) (fun k => x5 [(0, vPt), (5, .v (.c (.row 4 6 ((S k).acc.map tc)))), (8, vLs l), (9, vI (l.length : Nat)), (10, vI (k : Nat))] [some (bxS 3 2 ml L.length (S k).pl (S k).er), none, some (mpS ml), some (arS (S k).E), some (.row 24 6)]) (fun k => k ≤ l.length) (fun k => l.length - k) 0 (Nat.zero_le _) (by rw [c1, c2, c3, c4]; unfold St.nil; exact c42 [9] rfl (by simp -implicitDefEqProofs) (by simp -implicitDefEqProofs) (by decide) rfl (by simp)) (fun Z hI k hk => ?_)
  by_cases hkl : k < l.length; rotate_left
  · have : k = l.length := by omega
    subst this
    repeat (first | refine b9 ?_ | refine b6 ?_ | refine a6 ?_ | refine b5 ?_ | refine e7 rfl ?_ | refine d9 rfl ?_ | ((first | refine b8 (fun K hK => ?_) | refine d3 e9 (fun K hK => ?_) | fail); simp -implicitDefEqProofs; first | refine hK _ ?_ | refine hK _ _ (by rfl) ?_ | fail) | fail)
    refine d6 (b7n [4] rfl ?_); simp -implicitDefEqProofs [m9, f6, f7] <;> try rfl
  obtain ⟨⟨ax, al⟩, hy⟩ : ∃ a, l[k]? = some a := ⟨_, List.getElem?_eq_getElem hkl⟩
  have hy' := (List.getElem?_eq_some_iff.1 hy).2
  have w2 : IntKind.i64.wrap ((k : Nat) + 1 : Int) = (k : Nat) + 1 := l4 _ (by omega) (by omega)
  have hi := hinv k hk
  have hs := hstp k
  have hgd : l.getD k z0T = .mk ax al := by rw [List.getD_eq_getElem?_getD, hy]; rfl
  obtain ⟨s, hsk⟩ : ∃ s, S k = s := ⟨_, rfl⟩
  rw [hsk] at hi hs ⊢
  obtain ⟨acc, L', E', p, q⟩ := s
  obtain ⟨hL', hE', len, hp1, hq1, -⟩ := hi
  dsimp only at hL' hE' len hp1 hq1 hs ⊢
  have hp0 : q = 0 → p = 0 := fun hq => by
    by_cases h0 : e = 0
    · rw [if_pos h0] at hp1 hq1; rw [hp1]; exact b78 ml L _ (by rw [← hq1]; exact hq)
    · rw [if_neg h0] at hq1; exact absurd (hq1 ▸ hq) h0
  clear hp1 hq1
  subst hL'
  by_cases hq : q = 0
  · subst hq
    rw [if_pos rfl] at hs
    unfold stE at hs
    rw [hgd] at hs
    dsimp only at hs
    have hr := (hf k _ L' E' hy hE' (hsz _ (List.mem_of_getElem? hy))).2.2
    obtain ⟨⟨tx, tl⟩, ht⟩ : ∃ t, ft k L' E' = t := ⟨_, rfl⟩
    rw [ht] at hr hs
    obtain ⟨E2, hE2⟩ : ∃ E2, fE k L' E' = E2 := ⟨_, rfl⟩
    rw [hE2] at hr hs
    obtain ⟨p2, hp2⟩ : ∃ p2, (r8 ml (.mk ax al) L').pl = p2 := ⟨_, rfl⟩
    obtain ⟨q2, hq2⟩ : ∃ q2, (r8 ml (.mk ax al) L').er = q2 := ⟨_, rfl⟩
    rw [hp2, hq2] at hr hs
    have hp := hp0 rfl
    subst hp
    clear hp0
    have b1 : (acc.length + 1) * 72 ≤ 140737488355328 := by omega
    have b2 : acc.length + 1 ≤ 140737488355328 := by omega
    repeat' (first | refine b9 ?_ | refine b6 ?_ | refine a6 ?_ | refine b5 ?_ | refine e7 rfl ?_ | refine d9 rfl ?_ | ((first | refine b8 (fun K hK => ?_) | refine d3 e9 (fun K hK => ?_) | refine b7 (cgS hr 0 rfl ?_) | refine a8 (dgS hr 0 rfl ?_) | fail); simp -implicitDefEqProofs [hkl, hy, hy', w2, b1, b2]) | refine hK _ ?_ | refine hK _ _ (by rfl) ?_ | fail)
    refine ⟨k + 1, by omega, (by dsimp only; omega), ?_⟩
    rw [hI, hs]; exact c42 [27] rfl (by simp -implicitDefEqProofs) (by simp -implicitDefEqProofs) (by decide) rfl (by simp)
  · rw [if_neg hq] at hs
    repeat (first | refine b9 ?_ | refine b6 ?_ | refine a6 ?_ | refine b5 ?_ | refine e7 rfl ?_ | refine d9 rfl ?_ | ((first | refine b8 (fun K hK => ?_) | refine d3 e9 (fun K hK => ?_) | fail); simp -implicitDefEqProofs [hkl, hy, hy', w2, hq]; first | refine hK _ ?_ | refine hK _ _ (by rfl) ?_ | fail) | fail)
    refine ⟨k + 1, by omega, (by dsimp only; omega), ?_⟩
    rw [hI, hs]; exact c42 [4] rfl (by simp -implicitDefEqProofs) (by simp -implicitDefEqProofs) (by decide) rfl (by simp)
structure InvB (ml l : List VT) (L : List ByteArray) (k : Nat) (s : Sq) : Prop where
  hL : ∃ j, j ≤ k ∧ s.L = brgS L (l.take j)
  hE : OkE s.L s.E
  len : s.acc.length ≤ k
  pl : s.pl = (blkS ml L (l.take k)).2.1
  er : s.er = (blkS ml L (l.take k)).2.2
  acc : s.er = 0 → s.acc = (blkS ml L (l.take k)).1 ∧ s.L = brgS L (l.take k)
theorem b76 {x : Lab} {l : List VT} {y : VT} (h : y ∈ l) : l.length + y.size ≤ Tr.size (Tr.mk x l) := by
  rw [Tr.size_mk]
  induction l with
  | nil => cases h
  | cons z l ih =>
    have hz := Tr.size_pos z
    have hl : l.length ≤ (l.map Tr.size).sum := by
      clear ih h
      induction l with
      | nil => simp
      | cons u l ih => have := Tr.size_pos u; simp; omega
    rcases List.mem_cons.1 h with rfl | h
    · simp; omega
    · have := ih h
      simp at this ⊢; omega
structure Sp where
  acc : List VT
  M : List (Value × PT)
  E : List ByteArray
  pl : Int
  er : Int
theorem okE0 (E : List ByteArray) : OkE [] E := ⟨rfl, Nat.zero_le _⟩
structure InvSp (ml l : List VT) (k : Nat) (s : Sp) : Prop where
  len : s.acc.length = k
  pl : s.pl = (b3e ml true [] (l.take k)).2.1
  er : s.er = (b3e ml true [] (l.take k)).2.2
  acc : s.er = 0 → s.acc = (b3e ml true [] (l.take k)).1 ∧ s.M = plF 0 (l.take k) ∧ s.pl = 0
theorem c3t (ml : List VT) (keep : Bool) : ∀ (l : List VT) (seen : List ByteArray), (b3e ml keep seen l).2.2 = 0 → (b3e ml keep seen l).2.1 = 0
  | [], seen, _ => rfl
  | y :: l, seen, h => by
    unfold b3e at h ⊢
    split
    · rename_i c; rw [if_pos c] at h; exact absurd (show (9 : Int) = 0 from h) (by decide)
    rename_i c; rw [if_neg c] at h
    split
    · rename_i d; rw [if_pos d] at h; exact absurd h d
    rename_i d; rw [if_neg d] at h
    split
    · rename_i e; rw [if_pos e] at h; exact absurd h e
    · rfl
theorem b7e (ml : List VT) {x : Lab} {l : List VT} (hk : x.k = 31 ∨ x.k = 32) : r8 ml (.mk x l) [] = b0a ⟨x.k, x.n, ⟨#[]⟩, x.f, x.t⟩ [] (a2o ml [] l) := by
  rw [a35, if_neg (by omega), if_neg (by unfold c61; rcases hk with hk | hk <;> simp [hk]), a7s ml x [] (by omega) l 0 [] [] (fun e => by omega)]
  congr 1
  unfold c1x
  rcases hk with hk | hk <;> simp [hk]
def DOk (ml : List VT) (d : VT) : Prop := ∀ E : List ByteArray, ∃ t' E', ((a0y ml d).er = 0 → t' = (a0y ml d).t) ∧ Row Tryz.prog 49 [vPt, vT d] [bxS 1 2 ml 0 0 0, arS E, mpS ml] (vT t') [some (bxS 3 2 ml 0 (a0y ml d).pl (a0y ml d).er), none, some (mpS ml), some (arS E')]
noncomputable abbrev bxD (ml : List VT) (a e : Int) : AO := .box [.pv (.sl 6 (ml.map tc)), .map 1, .pv .nilS, .pv (I a), .pv (I e)]
theorem b5f (ml : List VT) (x : Lab) (l : List VT) (M : List (Value × PT)) : Row Tryz.prog 72 [vPt, vT (.mk x l), vI 9] [bxD ml 0 0, .mp none M] (.tup []) [some (bxD ml x.f 9), some (.mp none M)] := by
  refine d7 Tryz.func72 rfl rfl (Nat.le_of_ble_eq_true rfl) ?_
  repeat (first | refine b9 ?_ | refine b6 ?_ | refine a6 ?_ | refine b5 ?_ | refine e7 rfl ?_ | refine d9 rfl ?_ | ((first | refine b8 (fun K hK => ?_) | refine d3 e9 (fun K hK => ?_) | fail); simp -implicitDefEqProofs; first | refine hK _ ?_ | refine hK _ _ (by rfl) ?_ | fail) | fail)
  refine l5 (j0 [0, 1] ?_); simp -implicitDefEqProofs [m9, f6, f7] <;> try rfl
theorem b85 (ml : List VT) (hml : ml.length ≤ 100000) : ∃ M, (a5f [] ml = none → M = plF 0 ml) ∧ Row Tryz.prog 48 [vPt] [bxD ml 0 0, .mp none []] (.tup []) [some (bxD ml (match a5f [] ml with | some f => f | none => 0) (match a5f [] ml with | some _ => 9 | none => 0)), some (.mp none M)] := by
  obtain ⟨R, hR⟩ : ∃ R, a5f [] ml = R := ⟨_, rfl⟩
  -- where the first one stands that is there twice
  obtain ⟨j, hj, hj1, hj2⟩ : ∃ j, j ≤ ml.length ∧ (∀ k, k ≤ j → a5f [] (ml.take k) = none) ∧ (j < ml.length → ∀ y, ml[j]? = some y → b2z ((ml.take j).map (·.lab.s)) y.lab.s = true ∧ R = some y.lab.f) := by
    clear hml
    have key : ∀ n, n ≤ ml.length → (∀ k, k ≤ n → a5f [] (ml.take k) = none) ∨ ∃ j, j < n ∧ (∀ k, k ≤ j → a5f [] (ml.take k) = none) ∧ ∀ y, ml[j]? = some y → b2z ((ml.take j).map (·.lab.s)) y.lab.s = true ∧ R = some y.lab.f := by
      intro n
      induction n with
      | zero => intro _; exact .inl (fun k hk => by have : k = 0 := by omega
                                                    subst this; rfl)
      | succ n ih =>
        intro hn
        rcases ih (by omega) with h | ⟨j, h1, h2, h3⟩
        · obtain ⟨y, hy⟩ : ∃ y, ml[n]? = some y := ⟨_, List.getElem?_eq_getElem (by omega)⟩
          have ht := a9w ml n y hy (h n (Nat.le_refl _))
          by_cases c : b2z ((ml.take n).map (·.lab.s)) y.lab.s = true
          · rw [if_pos c] at ht
            refine .inr ⟨n, by omega, h, fun y' hy' => ?_⟩
            rw [hy] at hy'; cases hy'
            refine ⟨c, ?_⟩
            rw [← hR]
            have := b3v (ml.take (n + 1)) (ml.drop (n + 1)) [] ht
            rw [List.take_append_drop] at this
            exact this
          · rw [if_neg c] at ht
            refine .inl (fun k hk => ?_)
            by_cases hk' : k = n + 1
            · subst hk'; exact ht
            · exact h k (by omega)
        · exact .inr ⟨j, by omega, h2, h3⟩
    rcases key ml.length (Nat.le_refl _) with h | ⟨j, h1, h2, h3⟩
    · exact ⟨ml.length, Nat.le_refl _, h, fun h' => by omega⟩
    · exact ⟨j, by omega, h2, fun _ => h3⟩
  rw [hR]
  refine ⟨plF 0 (ml.take j), fun h => ?_, ?_⟩
  · have : ¬ j < ml.length := fun hlt => by
      obtain ⟨y, hy⟩ : ∃ y, ml[j]? = some y := ⟨_, List.getElem?_eq_getElem hlt⟩
      have := (hj2 hlt y hy).2
      rw [h] at this; cases this
    rw [List.take_of_length_le (by omega)]
  have hRn : j = ml.length → R = none := fun h => by
    have := hj1 j (Nat.le_refl _)
    rw [h, List.take_length, hR] at this; exact this
  clear hR
  have p0 : plF 0 (ml.take 0) = [] := rfl
  refine d7 Tryz.func48 rfl rfl (Nat.le_of_ble_eq_true rfl) ?_
  repeat (first | refine b9 ?_ | refine b6 ?_ | refine a6 ?_ | refine b5 ?_ | refine e7 rfl ?_ | refine d9 rfl ?_ | ((first | refine b8 (fun K hK => ?_) | refine d3 e9 (fun K hK => ?_) | fail); simp -implicitDefEqProofs; first | refine hK _ ?_ | refine hK _ _ (by rfl) ?_ | fail) | fail)
  refine m6 (ι := Nat) (fun k => x5 [(0, vPt), (9, vLs ml), (10, vI (ml.length : Nat)), (11, vI (k : Nat))] [some (bxD ml 0 0), some (.mp none (plF 0 (ml.take k)))]) (fun k => k ≤ j) (fun k => ml.length - k) 0 (Nat.zero_le _) (by rw [p0]; exact e8 [0, 1] (by simp -implicitDefEqProofs) (by simp -implicitDefEqProofs) (by decide) rfl (by simp)) (fun Z hI k hk => ?_)
  by_cases hkl : k < ml.length; rotate_left
  · have e1 : j = ml.length := by omega
    have e2 : k = ml.length := by omega
    have := hRn e1
    subst this
    subst e2
    rw [e1]
    repeat (first | refine b9 ?_ | refine b6 ?_ | refine a6 ?_ | refine b5 ?_ | refine e7 rfl ?_ | refine d9 rfl ?_ | ((first | refine b8 (fun K hK => ?_) | refine d3 e9 (fun K hK => ?_) | fail); simp -implicitDefEqProofs; first | refine hK _ ?_ | refine hK _ _ (by rfl) ?_ | fail) | fail)
    refine l5 (j0 [0, 1] ?_); simp -implicitDefEqProofs [m9, f6, f7] <;> try rfl
  obtain ⟨⟨ax, al⟩, hy⟩ : ∃ a, ml[k]? = some a := ⟨_, List.getElem?_eq_getElem hkl⟩
  have hy' := (List.getElem?_eq_some_iff.1 hy).2
  have w2 : IntKind.i64.wrap ((k : Nat) + 1 : Int) = (k : Nat) + 1 := l4 _ (by omega) (by omega)
  have hlk := b3c ax.s (ml.take k) 0
  by_cases hkj : k < j
  · have h1 := hj1 (k + 1) (by omega)
    rw [a9w ml k _ hy (hj1 k (by omega)), Tr.lab] at h1
    have hno : b2z ((ml.take k).map (·.lab.s)) ax.s = false := by
      cases hq : b2z ((ml.take k).map (·.lab.s)) ax.s with
      | false => rfl
      | true => rw [hq] at h1; simp at h1
    rw [b2g.2 hno, Option.map_none] at hlk
    have hput := b8k ax.s (.c (I (k : Nat))) _ hlk
    have hsn : plF 0 (ml.take (k + 1)) = plF 0 (ml.take k) ++ [(.string ax.s, .c (I (k : Nat)))] := by
      rw [show ml.take (k + 1) = ml.take k ++ [.mk ax al] by rw [List.take_add_one, hy]; rfl, b3d]
      simp [Tr.lab, Nat.min_eq_left (Nat.le_of_lt hkl)]
    rw [← hsn] at hput
    generalize plF 0 (ml.take k) = M at hlk hput ⊢
    repeat (first | refine b9 ?_ | refine b6 ?_ | refine a6 ?_ | refine b5 ?_ | refine e7 rfl ?_ | refine d9 rfl ?_ | ((first | refine b8 (fun K hK => ?_) | refine d3 e9 (fun K hK => ?_) | fail); simp -implicitDefEqProofs [hkl, hy, hy', w2, hlk, hput]; first | refine hK _ ?_ | refine hK _ _ (by rfl) ?_ | fail) | fail)
    refine ⟨k + 1, by omega, (by dsimp only; omega), ?_⟩
    rw [hI]; exact e8 [0, 1] (by simp -implicitDefEqProofs) (by simp -implicitDefEqProofs) (by decide) rfl (by simp)
  · have hkj' : k = j := by omega
    subst hkj'
    obtain ⟨g1, g2⟩ := hj2 hkl _ hy
    rw [Tr.lab] at g1 g2
    subst g2
    obtain ⟨i, hi⟩ : ∃ i, dcl (ml.take k) ax.s = some i := by
      cases hq : dcl (ml.take k) ax.s with
      | none => rw [b2g.1 hq] at g1; cases g1
      | some i => exact ⟨i, rfl⟩
    rw [hi, Option.map_some] at hlk
    have hf := b5f ml ax al (plF 0 (ml.take k))
    generalize plF 0 (ml.take k) = M at hlk hf ⊢
    repeat' (first | refine b9 ?_ | refine b6 ?_ | refine a6 ?_ | refine b5 ?_ | refine e7 rfl ?_ | refine d9 rfl ?_ | ((first | refine b8 (fun K hK => ?_) | refine d3 e9 (fun K hK => ?_) | refine b7 (cg hf [0,1] ?_) | refine a8 (dg hf [0,1] ?_) | fail); simp -implicitDefEqProofs [hkl, hy, hy', hlk]) | refine hK _ ?_ | refine hK _ _ (by rfl) ?_ | fail)
    refine d6 (j0 [0, 1] ?_); simp -implicitDefEqProofs [m9, f6, f7] <;> try rfl
theorem dec_pl (ml : List VT) (d : VT) (h : (a0y ml d).er = 0) : (a0y ml d).pl = 0 := by
  unfold a0y at h ⊢
  split
  · rename_i c; rw [if_pos c] at h
    rw [b36] at h
    rw [b97 _ _ _ (c3t ml true d.kids [])]
    exact c3t ml true d.kids [] h
  · rename_i c; rw [if_neg c] at h
    split
    · rename_i c; rw [if_pos c] at h
      unfold fnSc at h ⊢
      split
      · rename_i c; rw [if_pos c] at h; exact absurd h c
      rename_i c; rw [if_neg c] at h
      split
      · rename_i c; rw [if_pos c] at h; exact absurd h c
      rename_i c; rw [if_neg c] at h
      split
      · rename_i c; rw [if_pos c] at h; exact absurd h c
      · rfl
    · rename_i c; rw [if_neg c] at h; exact c3d ml d [] h
theorem a64 (ml : List VT) : ∀ l : List VT, (a0f ml l).2.2 = 0 → (a0f ml l).2.1 = 0
  | [], _ => rfl
  | y :: r, h => by
    unfold a0f at h ⊢
    split
    · rename_i c; rw [if_pos c] at h; exact absurd h c
    · rename_i c; rw [if_neg c] at h
      split
      · rename_i d; rw [if_pos d] at h; exact absurd h d
      · rfl
theorem c45 {ml l : List VT} (h : ∀ y ∈ l, DOk ml y) : ∃ (ft : Nat → List ByteArray → VT) (fE : Nat → List ByteArray → List ByteArray), ∀ k y E, l[k]? = some y → ((a0y ml y).er = 0 → ft k E = (a0y ml y).t) ∧ Row Tryz.prog 49 [vPt, vT y] [bxS 1 2 ml 0 0 0, arS E, mpS ml] (vT (ft k E)) [some (bxS 3 2 ml 0 (a0y ml y).pl (a0y ml y).er), none, some (mpS ml), some (arS (fE k E))] := by
  have key : ∀ (k : Nat) (E : List ByteArray), ∃ t' E', ∀ y, l[k]? = some y → ((a0y ml y).er = 0 → t' = (a0y ml y).t) ∧ Row Tryz.prog 49 [vPt, vT y] [bxS 1 2 ml 0 0 0, arS E, mpS ml] (vT t') [some (bxS 3 2 ml 0 (a0y ml y).pl (a0y ml y).er), none, some (mpS ml), some (arS E')] := by
    intro k E
    by_cases hc : ∃ y, l[k]? = some y
    · obtain ⟨y, h1⟩ := hc
      obtain ⟨t', E', h4⟩ := h y (List.mem_of_getElem? h1) E
      exact ⟨t', E', fun z hz => by rw [h1] at hz; cases hz; exact h4⟩
    · exact ⟨z0T, [], fun y h1 => absurd ⟨y, h1⟩ hc⟩
  exact ⟨fun k E => Classical.choose (key k E), fun k E => Classical.choose (Classical.choose_spec (key k E)), fun k y E h1 => Classical.choose_spec (Classical.choose_spec (key k E)) y h1⟩
noncomputable def stD (ml : List VT) (ft : Nat → List ByteArray → VT) (fE : Nat → List ByteArray → List ByteArray) (k : Nat) (s : Sq) : Sq := ⟨s.acc ++ [ft k s.E], [], fE k s.E, (a0y ml (ml.getD k z0T)).pl, (a0y ml (ml.getD k z0T)).er⟩
structure InvD (ml : List VT) (a e : Int) (k : Nat) (s : Sq) : Prop where
  len : s.acc.length ≤ k
  pl : s.pl = if e = 0 then (a0f ml (ml.take k)).2.1 else a
  er : s.er = if e = 0 then (a0f ml (ml.take k)).2.2 else e
  acc : s.er = 0 → s.acc = (a0f ml (ml.take k)).1
theorem b9c {ml : List VT} {a e : Int} (ha : e = 0 → a = 0) {ft : Nat → List ByteArray → VT} {fE : Nat → List ByteArray → List ByteArray} (hf : ∀ k y E, ml[k]? = some y → (a0y ml y).er = 0 → ft k E = (a0y ml y).t) : ∀ k, k ≤ ml.length → InvD ml a e k (sqN (stD ml ft fE) ⟨[], [], [], a, e⟩ k)
  | 0, _ => ⟨Nat.le_refl _, by
      show a = _
      by_cases h : e = 0
      · rw [if_pos h, ha h]; rfl
      · rw [if_neg h], by
      show e = _
      by_cases h : e = 0
      · rw [if_pos h, h]; rfl
      · rw [if_neg h], fun _ => rfl⟩
  | k + 1, hk => by
    have ih := b9c (fE := fE) ha hf k (by omega)
    obtain ⟨y, hy⟩ : ∃ y, ml[k]? = some y := ⟨_, List.getElem?_eq_getElem (by omega)⟩
    have hgd : ml.getD k z0T = y := by rw [List.getD_eq_getElem?_getD, hy]; rfl
    have htk : ml.take (k + 1) = ml.take k ++ [y] := by rw [List.take_add_one, hy]; rfl
    have hs := a5y ml y (ml.take k)
    rw [← htk] at hs
    unfold sqN
    generalize sqN (stD ml ft fE) ⟨[], [], [], a, e⟩ k = s at ih
    obtain ⟨len, pl, er, acc⟩ := ih
    by_cases h : s.er = 0
    · rw [if_pos h]
      unfold stD
      rw [hgd]
      by_cases h0 : e = 0
      · rw [if_pos h0] at pl er
        rw [if_neg (by rw [← er]; simpa using h)] at hs
        by_cases h2 : (a0y ml y).er = 0
        · rw [if_neg (by simpa using h2)] at hs
          refine ⟨by simp; omega, ?_, ?_, fun _ => ?_⟩
          · dsimp only; rw [if_pos h0, hs]; exact dec_pl ml y h2
          · dsimp only; rw [if_pos h0, hs]; exact h2
          · dsimp only; rw [hs, acc h, hf k y s.E hy h2]
        · rw [if_pos h2] at hs
          refine ⟨by simp; omega, ?_, ?_, fun h3 => absurd h3 h2⟩
          · dsimp only; rw [if_pos h0, hs]
          · dsimp only; rw [if_pos h0, hs]
      · rw [if_neg h0] at er
        exact absurd (er ▸ h) h0
    · rw [if_neg h]
      refine ⟨by omega, ?_, ?_, fun h3 => absurd h3 h⟩
      · by_cases h0 : e = 0
        · rw [if_pos h0] at pl er ⊢
          rw [hs, if_pos (by rw [← er]; exact h)]; exact pl
        · rw [if_neg h0] at pl ⊢; exact pl
      · by_cases h0 : e = 0
        · rw [if_pos h0] at er ⊢
          rw [hs, if_pos (by rw [← er]; exact h)]; exact er
        · rw [if_neg h0] at er ⊢; exact er
theorem c2l (x : Lab) (ml : List VT) (hml : ml.length ≤ 100000) (hd : ∀ d ∈ ml, DOk ml d) : Row Tryz.prog 27 [vT (.mk x ml)] [] (vT3i ((b46 x ml).t, (b46 x ml).pl, (b46 x ml).er)) [] := by
  obtain ⟨M, hM, hdr⟩ := b85 ml hml
  obtain ⟨ft, fE, hf⟩ := c45 hd
  obtain ⟨a0, e0, hdr, hae, hM0, htw⟩ : ∃ a0 e0 : Int, Row Tryz.prog 48 [vPt] [bxD ml 0 0, .mp none []] (.tup []) [some (bxD ml a0 e0), some (.mp none M)] ∧ (e0 = 0 → a0 = 0) ∧ (e0 = 0 → M = plF 0 ml) ∧ ((e0 = 9 ∧ b46 x ml = ⟨z0T, a0, 9⟩) ∨ (e0 = 0 ∧ b46 x ml = b0a ⟨x.k, x.n, ⟨#[]⟩, x.f, x.t⟩ [] (a0f ml ml))) := by
    have hres : b46 x ml = match a5f [] ml with | some f => ⟨z0T, f, 9⟩ | none => b0a ⟨x.k, x.n, ⟨#[]⟩, x.f, x.t⟩ [] (a0f ml ml) := rfl
    cases ht : a5f [] ml with
    | some f =>
      rw [ht] at hdr hres
      exact ⟨f, 9, hdr, fun h => absurd h (by decide), fun h => absurd h (by decide), .inl ⟨rfl, hres⟩⟩
    | none =>
      rw [ht] at hdr hres
      exact ⟨0, 0, hdr, fun _ => rfl, fun _ => hM ht, .inr ⟨rfl, hres⟩⟩
  have hinv := b9c (ml := ml) (fE := fE) hae (fun k y E h1 h2 => (hf k y E h1).1 h2)
  have hstp : ∀ k, sqN (stD ml ft fE) ⟨[], [], [], a0, e0⟩ (k + 1) = if (sqN (stD ml ft fE) ⟨[], [], [], a0, e0⟩ k).er = 0 then stD ml ft fE k (sqN (stD ml ft fE) ⟨[], [], [], a0, e0⟩ k) else sqN (stD ml ft fE) ⟨[], [], [], a0, e0⟩ k := fun k => rfl
  have h00 : sqN (stD ml ft fE) ⟨[], [], [], a0, e0⟩ 0 = ⟨[], [], [], a0, e0⟩ := rfl
  obtain ⟨S, hS⟩ : ∃ S, sqN (stD ml ft fE) ⟨[], [], [], a0, e0⟩ = S := ⟨_, rfl⟩
  rw [hS] at hinv hstp h00
  have hend := hinv ml.length (Nat.le_refl _)
  have e1 := hend.pl
  have e2 := hend.er
  have e3 := hend.acc
  rw [List.take_length] at e1 e2 e3
  have hfin : ((S ml.length).er ≠ 0 → (b46 x ml).t = z0T) ∧ ((S ml.length).er = 0 → (b46 x ml).t = .mk ⟨x.k, x.n, ⟨#[]⟩, x.f, x.t⟩ (S ml.length).acc) ∧ (b46 x ml).pl = (S ml.length).pl ∧ (b46 x ml).er = (S ml.length).er := by
    rcases htw with ⟨h9, hres⟩ | ⟨h9, hres⟩
    · have hne : e0 ≠ 0 := by rw [h9]; decide
      rw [if_neg hne] at e1 e2
      rw [hres, e1, e2, h9]
      exact ⟨fun _ => rfl, fun h => absurd h (by decide), rfl, rfl⟩
    · rw [if_pos h9] at e1 e2
      rw [hres, b36, b97 _ _ _ (a64 ml ml), e1, e2]
      refine ⟨fun h => ?_, fun h => ?_, rfl, rfl⟩
      · unfold b0a; rw [if_pos h]
      · rw [wrp_t _ _ _ h, List.nil_append, e3 (by rw [e2]; exact h)]
  obtain ⟨f1, f2, f3, f4⟩ := hfin
  rw [f3, f4]
  generalize (b46 x ml).t = rt at f1 f2 ⊢
  clear hend e1 e2 e3 hS f3 f4 hM htw
  have c1 : (S 0).acc = [] := by rw [h00]
  have c2 : (S 0).E = [] := by rw [h00]
  have c3 : (S 0).pl = a0 := by rw [h00]
  have c4 : (S 0).er = e0 := by rw [h00]
  have hst : ∀ k, e0 ≠ 0 → k ≤ ml.length → (S k).er ≠ 0 := fun k h hk => by rw [(hinv k hk).er, if_neg h]; exact h
  refine d7 Tryz.func27 rfl rfl (Nat.le_of_ble_eq_true rfl) ?_
  repeat' (first | refine b9 ?_ | refine b6 ?_ | refine a6 ?_ | refine b5 ?_ | refine e7 rfl ?_ | refine d9 rfl ?_ | ((first | refine b8 (fun K hK => ?_) | refine d3 e9 (fun K hK => ?_) | refine b7 (cg hdr [8,6] ?_) | refine a8 (dg hdr [8,6] ?_) | fail); simp -implicitDefEqProofs) | refine hK _ ?_ | refine hK _ _ (by rfl) ?_ | fail)
  clear hdr
  refine a08 8 2 _ 9 1 rfl rfl (by dsimp only; omega) ?_
  simp [St.nilca]
  refine a38 30 8 2 _ 9 1 0 [] rfl rfl (.inl rfl) (by dsimp only; omega) (by dsimp only; omega) ?_
  simp [St.mvw]
  refine a2r 20 3 _ 24 6 rfl rfl (by dsimp only; omega) ?_
  simp [St.nilc]
  refine m6 (ι := Nat) (fun k => x5 [(1, .v (.c (.ptr 0 0))), (2, .v (.c (.ptr 1 0))), (3, vI 0), (4, vI 0), (5, .v (.c (.ptr 2 0))), (6, .v (.c (.ptr 5 0))), (20, vLs ml), (21, vI (ml.length : Nat)), (22, vI (k : Nat))] [some (.box (ta (.mk x ml))), some zTb, some (.box [.pv (.sl 6 (ml.map tc)), .map 4, .vw 3 1 0 0, .pv (I (S k).pl), .pv (I (S k).er)]), some (arS (S k).E), some (.mp none M), some (.box [.pv (I x.k), .pv (I x.n), .pv (Sx ⟨#[]⟩), .row 6 6 ((S k).acc.map tc), .pv (I x.f), .pv (I x.t)]), some (.row 24 6)]) (fun k => k ≤ ml.length) (fun k => ml.length - k) 0 (Nat.zero_le _) (by rw [c1, c2, c3, c4]; exact e8 [0, 1, 8, 31, 6, 20, 32] (by simp -implicitDefEqProofs) (by simp -implicitDefEqProofs) (by decide) rfl (by simp)) (fun Z hI k hk => ?_)
  by_cases hkl : k < ml.length; rotate_left
  · have : k = ml.length := by omega
    subst this
    by_cases hq : (S ml.length).er = 0
    · have := f2 hq
      subst this
      have hp : (S ml.length).pl = 0 := by
        have h1 := hinv ml.length (Nat.le_refl _)
        by_cases h0 : e0 = 0
        · rw [h1.pl, if_pos h0]; exact a64 ml _ (by have := h1.er; rw [if_pos h0] at this; rw [← this]; exact hq)
        · exact absurd hq (hst _ h0 (Nat.le_refl _))
      rw [hq, hp]
      repeat (first | refine b9 ?_ | refine b6 ?_ | refine a6 ?_ | refine b5 ?_ | refine e7 rfl ?_ | refine d9 rfl ?_ | ((first | refine b8 (fun K hK => ?_) | refine d3 e9 (fun K hK => ?_) | fail); simp -implicitDefEqProofs; first | refine hK _ ?_ | refine hK _ _ (by rfl) ?_ | fail) | fail)
      refine d6 (d4 ?_); simp -implicitDefEqProofs [f9, f6, f7] <;> try rfl
    · have := f1 hq
      subst this
      repeat (first | refine b9 ?_ | refine b6 ?_ | refine a6 ?_ | refine b5 ?_ | refine e7 rfl ?_ | refine d9 rfl ?_ | ((first | refine b8 (fun K hK => ?_) | refine d3 e9 (fun K hK => ?_) | fail); simp -implicitDefEqProofs [hq]; first | refine hK _ ?_ | refine hK _ _ (by rfl) ?_ | fail) | fail)
      refine d6 (d4 ?_); simp -implicitDefEqProofs [f9, f6, f7] <;> try rfl
  clear f1 f2
  obtain ⟨⟨ax, al⟩, hy⟩ : ∃ a, ml[k]? = some a := ⟨_, List.getElem?_eq_getElem hkl⟩
  have hy' := (List.getElem?_eq_some_iff.1 hy).2
  have w2 : IntKind.i64.wrap ((k : Nat) + 1 : Int) = (k : Nat) + 1 := l4 _ (by omega) (by omega)
  have hs := hstp k
  have hi := hinv k hk
  have hgd : ml.getD k z0T = .mk ax al := by rw [List.getD_eq_getElem?_getD, hy]; rfl
  by_cases hq : (S k).er = 0
  · have h0 : e0 = 0 := by
      by_cases h0 : e0 = 0
      · exact h0
      · exact absurd hq (hst _ h0 hk)
    have hp : (S k).pl = 0 := by
      rw [hi.pl, if_pos h0]; exact a64 ml _ (by have := hi.er; rw [if_pos h0] at this; rw [← this]; exact hq)
    have hMM := hM0 h0
    subst hMM
    have hr := (hf k _ (S k).E hy).2
    have len := hi.len
    rw [if_pos hq] at hs
    unfold stD at hs
    rw [hgd] at hs
    rw [hq, hp]
    obtain ⟨⟨tx, tl⟩, ht⟩ : ∃ t, ft k (S k).E = t := ⟨_, rfl⟩
    rw [ht] at hr hs
    obtain ⟨E2, hE2⟩ : ∃ E2, fE k (S k).E = E2 := ⟨_, rfl⟩
    rw [hE2] at hr hs
    generalize (S k).E = E1 at hr ⊢
    generalize (a0y ml (.mk ax al)).pl = p2 at hr hs
    generalize (a0y ml (.mk ax al)).er = q2 at hr hs
    generalize (S k).acc = acc at hs len ⊢
    have b1 : (acc.length + 1) * 72 ≤ 140737488355328 := by omega
    have b2 : acc.length + 1 ≤ 140737488355328 := by omega
    clear hM0 hst hinv hstp h00 c1 c2 c3 c4 hi
    repeat' (first | refine b9 ?_ | refine b6 ?_ | refine a6 ?_ | refine b5 ?_ | refine e7 rfl ?_ | refine d9 rfl ?_ | ((first | refine b8 (fun K hK => ?_) | refine d3 e9 (fun K hK => ?_) | refine b7 (cgS hr 2 rfl ?_) | refine a8 (dgS hr 2 rfl ?_) | fail); simp -implicitDefEqProofs [hkl, hy, hy', w2, b1, b2]) | refine hK _ ?_ | refine hK _ _ (by rfl) ?_ | fail)
    refine ⟨k + 1, by omega, (by dsimp only; omega), ?_⟩
    rw [hI, hs]; exact e8 [0, 1, 2, 49, 4, 5, 65] (by simp -implicitDefEqProofs) (by simp -implicitDefEqProofs) (by decide) rfl (by simp)
  · rw [if_neg hq] at hs
    repeat (first | refine b9 ?_ | refine b6 ?_ | refine a6 ?_ | refine b5 ?_ | refine e7 rfl ?_ | refine d9 rfl ?_ | ((first | refine b8 (fun K hK => ?_) | refine d3 e9 (fun K hK => ?_) | fail); simp -implicitDefEqProofs [hkl, hy, hy', w2, hq]; first | refine hK _ ?_ | refine hK _ _ (by rfl) ?_ | fail) | fail)
    refine ⟨k + 1, by omega, (by dsimp only; omega), ?_⟩
    rw [hI, hs]; exact e8 [0, 1, 2, 3, 4, 5, 6] (by simp -implicitDefEqProofs) (by simp -implicitDefEqProofs) (by decide) rfl (by simp)
theorem b3p (ml : List VT) (x : Lab) (l : List VT) (hk : x.k = 1 ∨ x.k = 32) (hok : ∀ y ∈ l, TOk ml y) : TOk ml (.mk x l) := by
  intro L E hE hsz
  have hlen := Tr.len_size (x := x) (l := l)
  have hs2 : ∀ y ∈ l, l.length + y.size ≤ Tr.size (Tr.mk x l) := fun y hy => b76 hy
  have hL0 : (L.length : Int) ≤ (L.length : Nat) := Int.le_refl _
  have k19 : ¬ x.k = 19 := by omega
  have k16 : ¬ x.k = 16 := by omega
  have k15 : ¬ x.k = 15 := by omega
  have k4 : ¬ x.k = 4 := by omega
  have k29 : ¬ x.k = 29 := by omega
  have k25 : ¬ x.k = 25 := by omega
  have k33 : ¬ x.k = 33 := by omega
  have k13 : ¬ x.k = 13 := by omega
  have k17 : ¬ x.k = 17 := by omega
  rw [a35, if_neg k19, if_neg (by unfold c61; simp [k16, k15, k4]), a7s ml x L (by omega) l 0 L [] (fun e => by omega)]
  obtain ⟨acc, E2, a1, a2, a3, hr⟩ := b86 ml l hok L E hE (fun y hy => by have := hs2 y hy; omega) (by omega) (by omega) 0 0 (fun _ => rfl)
  rw [if_pos rfl, if_pos rfl] at hr
  have i4 := a3.2
  refine ⟨.mk (c1x ml x) acc, E2, fun h => ?_, a3, ?_⟩
  · rw [b36] at h; rw [wrp_t _ _ _ h, List.nil_append, a1 rfl h]
  rw [b36, b97 _ _ _ (b78 ml L l)]
  have ho : c1x ml x = ⟨x.k, x.n, ⟨#[]⟩, x.f, x.t⟩ := by unfold c1x; simp [k19, k16, k15, k4, k29, k25, k33, k13, k17]
  rw [ho]
  clear a1 ho hk
  generalize a2o ml L l = g at hr ⊢
  obtain ⟨g0, g1, g2⟩ := g
  dsimp only at hr ⊢
  refine d7 Tryz.func74 rfl rfl (Nat.le_of_ble_eq_true rfl) ?_
  repeat' (first | refine b9 ?_ | refine b6 ?_ | refine a6 ?_ | refine b5 ?_ | refine e7 rfl ?_ | refine d9 rfl ?_ | ((first | refine b8 (fun K hK => ?_) | refine d3 e9 (fun K hK => ?_) | refine b7 (cgS hr 0 rfl ?_) | refine a8 (dgS hr 0 rfl ?_) | fail); simp -implicitDefEqProofs [k19, k16, k15, k4, k29, k25, k33, k13, k17, hL0, i4]) | refine hK _ ?_ | refine hK _ _ (by rfl) ?_ | fail)
  refine d6 (b7n [] rfl ?_); simp -implicitDefEqProofs [m9, f6, f7] <;> try rfl
theorem b84 (ml : List VT) (x : Lab) (l : List VT) (k32 : x.k = 32) (hok : ∀ y ∈ l, TOk ml y) (hsz : (Tr.mk x l).size ≤ 40000) : DOk ml (.mk x l) := by
  have k30 : ¬ x.k = 30 := by omega
  intro E
  unfold a0y
  rw [Tr.lab, Tr.kids]
  simp only [if_neg k30, if_neg (show ¬ x.k = 33 by omega)]
  have hk2 : x.k = 31 ∨ x.k = 32 := .inr k32
  obtain ⟨t', E', a1, a2, hrow⟩ := b3p ml { x with s := ⟨#[]⟩ } l (.inr k32) hok [] E (okE0 E) (by
    have : Tr.size (Tr.mk { x with s := (⟨#[]⟩ : ByteArray) } l) = Tr.size (Tr.mk x l) := by rw [Tr.size_mk, Tr.size_mk]
    simp only [List.length_nil]
    omega)
  have ha : r8 ml (.mk { x with s := ⟨#[]⟩ } l) [] = r8 ml (.mk x l) [] := (b7e ml (x := { x with s := ⟨#[]⟩ }) hk2).trans (b7e ml hk2).symm
  rw [ha] at a1 hrow
  rw [List.length_nil] at hrow
  refine ⟨t', E', a1, ?_⟩
  generalize r8 ml (.mk x l) [] = G at hrow ⊢
  obtain ⟨g0, g1, g2⟩ := G
  obtain ⟨⟨tx, tl⟩, rfl⟩ : ∃ u, u = t' := ⟨_, rfl⟩
  dsimp only at hrow ⊢
  clear a1 ha hok hk2 k32
  refine d7 Tryz.func49 rfl rfl (Nat.le_of_ble_eq_true rfl) ?_
  repeat' (first | refine b9 ?_ | refine b6 ?_ | refine a6 ?_ | refine b5 ?_ | refine e7 rfl ?_ | refine d9 rfl ?_ | ((first | refine b8 (fun K hK => ?_) | refine d3 e9 (fun K hK => ?_) | refine b7 (cgS hrow 0 rfl ?_) | refine a8 (dgS hrow 0 rfl ?_) | fail); simp -implicitDefEqProofs [k30]) | refine hK _ ?_ | refine hK _ _ (by rfl) ?_ | fail)
  refine d6 (b7n [] rfl ?_); simp -implicitDefEqProofs [m9, f6, f7] <;> try rfl
theorem td_tok : td Tryz.prog 70 = some ⟨true, 5, 48, [.lit (.int .i64 0), .lit (.int .i64 0), .lit (.string ⟨#[]⟩), .lit (.int .i64 0), .lit (.int .i64 0)], [(0, 1, false), (1, 1, false), (2, 1, false), (3, 1, false), (4, 1, false)], .struct⟩ := Eq.trans (by kernel_rfl) (Eq.refl _)
theorem td_toks : td Tryz.prog 59 = some ⟨false, 1, 24, [.nilS], [], (.slice 70)⟩ := Eq.trans (by kernel_rfl) (Eq.refl _)
theorem td_errno : td Tryz.prog 35 = some ⟨false, 1, 8, [.lit (.int .i64 0)], [], (.int .i64)⟩ := Eq.trans (by kernel_rfl) (Eq.refl _)
attribute [simp] td_tok td_toks td_errno
attribute [simp] kc
theorem c6s {ts : List Tok} {n i : Nat} (h : isK c0i (nxt ts i) = true) : tyG ts (n + 1) i = (.mk ⟨1, 0, ⟨#[]⟩, frT ts i, toT ts i⟩ [], i + 1, 0) := by rw [tyG, if_pos h]
theorem c2p {ts : List Tok} {n i : Nat} (h1 : isK c0i (nxt ts i) = false) (h : isK a99 (nxt ts i) = true) : tyG ts (n + 1) i = (.mk ⟨2, 0, ⟨#[]⟩, frT ts i, toT ts i⟩ [], i + 1, 0) := by rw [tyG, if_neg (by simp [h1]), if_pos h]
theorem c6r {ts : List Tok} {n i : Nat} (h1 : isK c0i (nxt ts i) = false) (h2 : isK a99 (nxt ts i) = false) (h : isK b1v (nxt ts i) = true) : tyG ts (n + 1) i =
      if (nxt ts (i + 1)).k = 2 then
        if isK b1w (nxt ts (i + 2)) = true then
          if (tyG ts n (i + 3)).2.2 = 0 then (.mk ⟨3, (nxt ts (i + 1)).n, ⟨#[]⟩, frT ts i, toT ts ((tyG ts n (i + 3)).2.1 - 1)⟩ [(tyG ts n (i + 3)).1], (tyG ts n (i + 3)).2.1, 0)
          else tyG ts n (i + 3)
        else (z0, i + 2, 6)
      else (z0, i + 1, 6) := by rw [tyG, if_neg (by simp [h1]), if_neg (by simp [h2]), if_pos h]
theorem c6t {ts : List Tok} {n i : Nat} (h1 : isK c0i (nxt ts i) = false) (h2 : isK a99 (nxt ts i) = false) (h3 : isK b1v (nxt ts i) = false) : tyG ts (n + 1) i = if (nxt ts i).k = 1 then (.mk ⟨4, 0, (nxt ts i).s, frT ts i, toT ts i⟩ [], i + 1, 0) else (z0, i, 6) := by rw [tyG, if_neg (by simp [h1]), if_neg (by simp [h2]), if_neg (by simp [h3])]
theorem b1a {ts : List Tok} {i : Nat} {k : Int} (h : (nxt ts i).k = k) (hk : k ≠ 5) : ∃ x, ts[i]? = some x ∧ nxt ts i = x ∧ x.k = k := by
  unfold nxt at h ⊢
  cases hx : ts[i]? with
  | none => rw [hx] at h; exact absurd h.symm hk
  | some x => rw [hx] at h; exact ⟨x, rfl, rfl, h⟩
theorem td_rdr : td Tryz.prog 63 = some ⟨true, 3, 40, [.nilS, .lit (.int .i64 0), .lit (.int .i64 0)], [(0, 1, false), (1, 1, false), (2, 1, false)], .struct⟩ := Eq.trans (by kernel_rfl) (Eq.refl _)
theorem td_u8 : td Tryz.prog 5 = some ⟨false, 1, 1, [.lit (.int .u8 0)], [], (.int .u8)⟩ := Eq.trans (by kernel_rfl) (Eq.refl _)
attribute [simp] td_rdr td_u8
theorem c3v (ts : List Tok) (i : Nat) (e : Int) (ρ : Nat → Nat) : (rd ts i e).ren ρ = rd ts i e := rfl
abbrev vR : AV := .v (.c (.ptr 0 0))
theorem p7 (ts : List Tok) (i : Nat) (e : Int) : Row Tryz.prog 43 [vR] [rd ts i e] (vB (decide (e = 0))) [some (rd ts i e)] := by
  refine d7 Tryz.func43 rfl rfl (Nat.le_of_ble_eq_true rfl) ?_
  repeat (first | refine b9 ?_ | refine b6 ?_ | refine a6 ?_ | refine b5 ?_ | refine e7 rfl ?_ | refine d9 rfl ?_ | ((first | refine b8 (fun K hK => ?_) | refine d3 e9 (fun K hK => ?_) | fail); simp -implicitDefEqProofs; first | refine hK _ ?_ | refine hK _ _ (by rfl) ?_ | fail) | fail)
  refine d6 (g7 ?_); simp -implicitDefEqProofs [s9, f6, f7] <;> try rfl
theorem a2g (ts : List Tok) (i : Nat) (e : Int) : Row Tryz.prog 62 [vR] [rd ts i e] (vI i) [some (rd ts i e)] := by
  refine d7 Tryz.func62 rfl rfl (Nat.le_of_ble_eq_true rfl) ?_
  repeat (first | refine b9 ?_ | refine b6 ?_ | refine a6 ?_ | refine b5 ?_ | refine e7 rfl ?_ | refine d9 rfl ?_ | ((first | refine b8 (fun K hK => ?_) | refine d3 e9 (fun K hK => ?_) | fail); simp -implicitDefEqProofs; first | refine hK _ ?_ | refine hK _ _ (by rfl) ?_ | fail) | fail)
  refine d6 (g7 ?_); simp -implicitDefEqProofs [s9, f6, f7] <;> try rfl
theorem c5a (ts : List Tok) (i : Nat) (e : Int) : Row Tryz.prog 46 [vR] [rd ts i e] (vI e) [some (rd ts i e)] := by
  refine d7 Tryz.func46 rfl rfl (Nat.le_of_ble_eq_true rfl) ?_
  repeat (first | refine b9 ?_ | refine b6 ?_ | refine a6 ?_ | refine b5 ?_ | refine e7 rfl ?_ | refine d9 rfl ?_ | ((first | refine b8 (fun K hK => ?_) | refine d3 e9 (fun K hK => ?_) | fail); simp -implicitDefEqProofs; first | refine hK _ ?_ | refine hK _ _ (by rfl) ?_ | fail) | fail)
  refine d6 (g7 ?_); simp -implicitDefEqProofs [s9, f6, f7] <;> try rfl
theorem a2c (ts : List Tok) (i : Nat) (e : Int) : Row Tryz.prog 44 [vR] [rd ts i e] (vK (nxt ts i)) [some (rd ts i e)] := by
  by_cases h : i < ts.length
  · obtain ⟨x, hx⟩ : ∃ x, ts[i]? = some x := ⟨_, List.getElem?_eq_getElem h⟩
    have hx' := (List.getElem?_eq_some_iff.1 hx).2
    rw [a3v hx]
    refine d7 Tryz.func44 rfl rfl (Nat.le_of_ble_eq_true rfl) ?_
    repeat (first | refine b9 ?_ | refine b6 ?_ | refine a6 ?_ | refine b5 ?_ | refine e7 rfl ?_ | refine d9 rfl ?_ | ((first | refine b8 (fun K hK => ?_) | refine d3 e9 (fun K hK => ?_) | fail); simp -implicitDefEqProofs [h, hx, hx']; first | refine hK _ ?_ | refine hK _ _ (by rfl) ?_ | fail) | fail)
    refine d6 (g7 ?_); simp -implicitDefEqProofs [s9, f6, f7] <;> try rfl
  · rw [b3b (by omega)]
    refine d7 Tryz.func44 rfl rfl (Nat.le_of_ble_eq_true rfl) ?_
    repeat (first | refine b9 ?_ | refine b6 ?_ | refine a6 ?_ | refine b5 ?_ | refine e7 rfl ?_ | refine d9 rfl ?_ | ((first | refine b8 (fun K hK => ?_) | refine d3 e9 (fun K hK => ?_) | fail); simp -implicitDefEqProofs [h]; first | refine hK _ ?_ | refine hK _ _ (by rfl) ?_ | fail) | fail)
    refine d6 (g7 ?_); simp -implicitDefEqProofs [s9, f6, f7, endK] <;> try rfl
theorem a6e (ts : List Tok) (i : Nat) (e : Int) : Row Tryz.prog 110 [vR] [rd ts i e] (.tup []) [some (rd ts i (er e))] := by
  have hg := p7 ts i e
  by_cases h : e = 0
  · subst h
    refine d7 Tryz.func110 rfl rfl (Nat.le_of_ble_eq_true rfl) ?_
    repeat' (first | refine b9 ?_ | refine b6 ?_ | refine a6 ?_ | refine b5 ?_ | refine e7 rfl ?_ | refine d9 rfl ?_ | ((first | refine b8 (fun K hK => ?_) | refine d3 e9 (fun K hK => ?_) | refine b7 (cb hg 0 ?_) | refine a8 (db hg 0 ?_) | fail); simp -implicitDefEqProofs) | refine hK _ ?_ | refine hK _ _ (by rfl) ?_ | fail)
    refine l5 (g7 ?_); simp -implicitDefEqProofs [s9, f6, f7, er] <;> try rfl
  · refine d7 Tryz.func110 rfl rfl (Nat.le_of_ble_eq_true rfl) ?_
    repeat' (first | refine b9 ?_ | refine b6 ?_ | refine a6 ?_ | refine b5 ?_ | refine e7 rfl ?_ | refine d9 rfl ?_ | ((first | refine b8 (fun K hK => ?_) | refine d3 e9 (fun K hK => ?_) | refine b7 (cb hg 0 ?_) | refine a8 (db hg 0 ?_) | fail); simp -implicitDefEqProofs [h]) | refine hK _ ?_ | refine hK _ _ (by rfl) ?_ | fail)
    refine l5 (g7 ?_); simp -implicitDefEqProofs [s9, f6, f7, er, h] <;> try rfl
theorem b3o (ts : List Tok) (i : Nat) (e : Int) (hl : ts.length ≤ 9223372036854775807) : Row Tryz.prog 102 [vR] [rd ts i e] (.tup []) [some (rd ts (if e = 0 ∧ i < ts.length then i + 1 else i) e)] := by
  have hg := p7 ts i e
  by_cases h : e = 0
  · subst h
    by_cases hi : i < ts.length
    · have w : IntKind.i64.wrap ((i : Nat) + 1 : Int) = (i : Nat) + 1 := l4 _ (by omega) (by omega)
      refine d7 Tryz.func102 rfl rfl (Nat.le_of_ble_eq_true rfl) ?_
      repeat' (first | refine b9 ?_ | refine b6 ?_ | refine a6 ?_ | refine b5 ?_ | refine e7 rfl ?_ | refine d9 rfl ?_ | ((first | refine b8 (fun K hK => ?_) | refine d3 e9 (fun K hK => ?_) | refine b7 (cb hg 0 ?_) | refine a8 (db hg 0 ?_) | fail); simp -implicitDefEqProofs [hi, w]) | refine hK _ ?_ | refine hK _ _ (by rfl) ?_ | fail)
      refine l5 (g7 ?_); simp -implicitDefEqProofs [s9, f6, f7, hi] <;> try rfl
    · refine d7 Tryz.func102 rfl rfl (Nat.le_of_ble_eq_true rfl) ?_
      repeat' (first | refine b9 ?_ | refine b6 ?_ | refine a6 ?_ | refine b5 ?_ | refine e7 rfl ?_ | refine d9 rfl ?_ | ((first | refine b8 (fun K hK => ?_) | refine d3 e9 (fun K hK => ?_) | refine b7 (cb hg 0 ?_) | refine a8 (db hg 0 ?_) | fail); simp -implicitDefEqProofs [hi]) | refine hK _ ?_ | refine hK _ _ (by rfl) ?_ | fail)
      refine l5 (g7 ?_); simp -implicitDefEqProofs [s9, f6, f7, hi] <;> try rfl
  · refine d7 Tryz.func102 rfl rfl (Nat.le_of_ble_eq_true rfl) ?_
    repeat' (first | refine b9 ?_ | refine b6 ?_ | refine a6 ?_ | refine b5 ?_ | refine e7 rfl ?_ | refine d9 rfl ?_ | ((first | refine b8 (fun K hK => ?_) | refine d3 e9 (fun K hK => ?_) | refine b7 (cb hg 0 ?_) | refine a8 (db hg 0 ?_) | fail); simp -implicitDefEqProofs [h]) | refine hK _ ?_ | refine hK _ _ (by rfl) ?_ | fail)
    refine l5 (g7 ?_); simp -implicitDefEqProofs [s9, f6, f7, h] <;> try rfl
theorem b42 (s : ByteArray) (hs : s.size ≤ 1000) : Row Tryz.prog 145 [vS s] [] (vI (quo s)) [] := by
  by_cases h0 : s = ⟨#[]⟩
  · subst h0
    refine d7 Tryz.func145 rfl rfl (Nat.le_of_ble_eq_true rfl) ?_
    repeat (first | refine b9 ?_ | refine b6 ?_ | refine a6 ?_ | refine b5 ?_ | refine e7 rfl ?_ | refine d9 rfl ?_ | ((first | refine b8 (fun K hK => ?_) | refine d3 e9 (fun K hK => ?_) | fail); simp -implicitDefEqProofs; first | refine hK _ ?_ | refine hK _ _ (by rfl) ?_ | fail) | fail)
    refine d6 (d4 ?_); simp -implicitDefEqProofs [f9, f6, f7, quo] <;> try rfl
  obtain ⟨c, l, e3, e2⟩ : ∃ c l, s.data.toList = c :: l ∧ s[0]? = some c := by
    obtain ⟨⟨l⟩⟩ := s
    cases l with
    | nil => exact absurd rfl h0
    | cons c l => exact ⟨c, l, rfl, rfl⟩
  have hq : quo s = if 97 ≤ c.toNat ∧ c.toNat ≤ 122 then 3 else 4 := by unfold quo; rw [e3]
  rw [hq]
  clear e3 hq
  refine d7 Tryz.func145 rfl rfl (Nat.le_of_ble_eq_true rfl) ?_
  by_cases h1 : 97 ≤ c.toNat
  · have h1' : (97 : Int) ≤ c.toNat := by omega
    by_cases h2 : c.toNat ≤ 122
    · have h2' : (c.toNat : Int) ≤ 122 := by omega
      repeat (first | refine b9 ?_ | refine b6 ?_ | refine a6 ?_ | refine b5 ?_ | refine e7 rfl ?_ | refine d9 rfl ?_ | ((first | refine b8 (fun K hK => ?_) | refine d3 e9 (fun K hK => ?_) | fail); simp -implicitDefEqProofs [h0, e2, h1, h2, h1', h2']; first | refine hK _ ?_ | refine hK _ _ (by rfl) ?_ | fail) | fail)
      refine d6 (d4 ?_); simp -implicitDefEqProofs [f9, f6, f7, h1, h2] <;> try rfl
    · have h2' : ¬ (c.toNat : Int) ≤ 122 := by omega
      repeat (first | refine b9 ?_ | refine b6 ?_ | refine a6 ?_ | refine b5 ?_ | refine e7 rfl ?_ | refine d9 rfl ?_ | ((first | refine b8 (fun K hK => ?_) | refine d3 e9 (fun K hK => ?_) | fail); simp -implicitDefEqProofs [h0, e2, h1, h2, h1', h2']; first | refine hK _ ?_ | refine hK _ _ (by rfl) ?_ | fail) | fail)
      refine d6 (d4 ?_); simp -implicitDefEqProofs [f9, f6, f7, h1, h2] <;> try rfl
  · have h1' : ¬ (97 : Int) ≤ c.toNat := by omega
    repeat (first | refine b9 ?_ | refine b6 ?_ | refine a6 ?_ | refine b5 ?_ | refine e7 rfl ?_ | refine d9 rfl ?_ | ((first | refine b8 (fun K hK => ?_) | refine d3 e9 (fun K hK => ?_) | fail); simp -implicitDefEqProofs [h0, e2, h1, h1']; first | refine hK _ ?_ | refine hK _ _ (by rfl) ?_ | fail) | fail)
    refine d6 (d4 ?_); simp -implicitDefEqProofs [f9, f6, f7, h1] <;> try rfl
theorem b74 (ts : List Tok) (i : Nat) (e : Int) (s : ByteArray) (hs : s.size ≤ 1000) : Row Tryz.prog 101 [vR, vS s] [rd ts i e] (vB (decide (e = 0) && isK s (nxt ts i))) [some (rd ts i e)] := by
  have h1 := a2c ts i e
  have h2 := p7 ts i e
  have h3 := b42 s hs
  obtain ⟨⟨k, n, x, f, t⟩, hx⟩ : ∃ x, nxt ts i = x := ⟨_, rfl⟩
  rw [hx] at h1 ⊢
  refine d7 Tryz.func101 rfl rfl (Nat.le_of_ble_eq_true rfl) ?_
  repeat' (first | refine b9 ?_ | refine b6 ?_ | refine a6 ?_ | refine b5 ?_ | refine e7 rfl ?_ | refine d9 rfl ?_ | ((first | refine b8 (fun K hK => ?_) | refine d3 e9 (fun K hK => ?_) | refine b7 (cb h1 0 ?_) | refine a8 (db h1 0 ?_) | refine b7 (cb h2 0 ?_) | refine a8 (db h2 0 ?_) | refine b7 (cp h3 ?_) | refine a8 (dp h3 ?_) | fail); simp -implicitDefEqProofs [*]) | refine hK _ ?_ | refine hK _ _ (by rfl) ?_ | (refine d8 rfl (fun hb => ?_) (fun hb => ?_) <;> ((try simp only [decide_eq_true_eq, decide_eq_false_iff_not, Bool.not_eq_true', Bool.not_eq_false', Bool.not_eq_eq_eq_not, Bool.not_true, Bool.not_false, beq_iff_eq, beq_true, beq_false, bne_iff_ne, ne_eq, Decidable.not_not, Bool.and_eq_true, Bool.or_eq_true, Bool.and_eq_false_iff, Bool.or_eq_false_iff] at hb) <;> repeat' (refine Or.elim hb (fun hb => ?_) (fun hb => ?_)))) | ((first | refine a1b (fun hb => ?_) (fun hb => ?_) | refine a0g (fun hb => ?_) (fun hb => ?_) | fail) <;> ((try simp only [decide_eq_true_eq, decide_eq_false_iff_not, Bool.not_eq_true', Bool.not_eq_false', Bool.not_eq_eq_eq_not, Bool.not_true, Bool.not_false, beq_iff_eq, beq_true, beq_false, bne_iff_ne, ne_eq, Decidable.not_not, Bool.and_eq_true, Bool.or_eq_true, Bool.and_eq_false_iff, Bool.or_eq_false_iff] at hb) <;> repeat' (refine Or.elim hb (fun hb => ?_) (fun hb => ?_))) <;> simp -implicitDefEqProofs [*]) | fail)
  all_goals (refine d6 (g7 ?_); simp -implicitDefEqProofs [s9, f6, f7, isK, *] <;> try rfl)
theorem a2j (ts : List Tok) (i : Nat) (s : ByteArray) (hs : s.size ≤ 1000) (hl : ts.length ≤ 9223372036854775807) (h : isK s (nxt ts i) = true) : Row Tryz.prog 63 [vR, vS s] [rd ts i 0] (vB true) [some (rd ts (i + 1) 0)] := by
  obtain ⟨x, hx, _⟩ := a58 h
  have hi := (List.getElem?_eq_some_iff.1 hx).1
  have h1 := b74 ts i 0 s hs
  have h2 := b3o ts i 0 hl
  rw [h] at h1
  rw [if_pos ⟨rfl, hi⟩] at h2
  refine d7 Tryz.func63 rfl rfl (Nat.le_of_ble_eq_true rfl) ?_
  repeat' (first | refine b9 ?_ | refine b6 ?_ | refine a6 ?_ | refine b5 ?_ | refine e7 rfl ?_ | refine d9 rfl ?_ | ((first | refine b8 (fun K hK => ?_) | refine d3 e9 (fun K hK => ?_) | refine b7 (cb h1 0 ?_) | refine a8 (db h1 0 ?_) | refine b7 (cb h2 0 ?_) | refine a8 (db h2 0 ?_) | fail); simp -implicitDefEqProofs) | refine hK _ ?_ | refine hK _ _ (by rfl) ?_ | fail)
  refine d6 (g7 ?_); simp -implicitDefEqProofs [s9, f6, f7] <;> try rfl
theorem a48 (ts : List Tok) (i : Nat) (e : Int) (s : ByteArray) (hs : s.size ≤ 1000) (h : e ≠ 0 ∨ isK s (nxt ts i) = false) : Row Tryz.prog 63 [vR, vS s] [rd ts i e] (vB false) [some (rd ts i e)] := by
  have h1 := b74 ts i e s hs
  rw [show (decide (e = 0) && isK s (nxt ts i)) = false by rcases h with h | h <;> simp [h]] at h1
  refine d7 Tryz.func63 rfl rfl (Nat.le_of_ble_eq_true rfl) ?_
  repeat' (first | refine b9 ?_ | refine b6 ?_ | refine a6 ?_ | refine b5 ?_ | refine e7 rfl ?_ | refine d9 rfl ?_ | ((first | refine b8 (fun K hK => ?_) | refine d3 e9 (fun K hK => ?_) | refine b7 (cb h1 0 ?_) | refine a8 (db h1 0 ?_) | fail); simp -implicitDefEqProofs) | refine hK _ ?_ | refine hK _ _ (by rfl) ?_ | fail)
  refine d6 (g7 ?_); simp -implicitDefEqProofs [s9, f6, f7] <;> try rfl
theorem b35 (ts : List Tok) (i : Nat) (s : ByteArray) (hs : s.size ≤ 1000) (hl : ts.length ≤ 9223372036854775807) (h : isK s (nxt ts i) = true) : Row Tryz.prog 67 [vR, vS s] [rd ts i 0] (.tup []) [some (rd ts (i + 1) 0)] := by
  have h1 := a2j ts i s hs hl h
  refine d7 Tryz.func67 rfl rfl (Nat.le_of_ble_eq_true rfl) ?_
  repeat' (first | refine b9 ?_ | refine b6 ?_ | refine a6 ?_ | refine b5 ?_ | refine e7 rfl ?_ | refine d9 rfl ?_ | ((first | refine b8 (fun K hK => ?_) | refine d3 e9 (fun K hK => ?_) | refine b7 (cb h1 0 ?_) | refine a8 (db h1 0 ?_) | fail); simp -implicitDefEqProofs) | refine hK _ ?_ | refine hK _ _ (by rfl) ?_ | fail)
  refine l5 (g7 ?_); simp -implicitDefEqProofs [s9, f6, f7] <;> try rfl
theorem a73 (ts : List Tok) (i : Nat) (e : Int) (s : ByteArray) (hs : s.size ≤ 1000) (h : e ≠ 0 ∨ isK s (nxt ts i) = false) : Row Tryz.prog 67 [vR, vS s] [rd ts i e] (.tup []) [some (rd ts i (er e))] := by
  have h1 := a48 ts i e s hs h
  have h2 := a6e ts i e
  refine d7 Tryz.func67 rfl rfl (Nat.le_of_ble_eq_true rfl) ?_
  repeat' (first | refine b9 ?_ | refine b6 ?_ | refine a6 ?_ | refine b5 ?_ | refine e7 rfl ?_ | refine d9 rfl ?_ | ((first | refine b8 (fun K hK => ?_) | refine d3 e9 (fun K hK => ?_) | refine b7 (cb h1 0 ?_) | refine a8 (db h1 0 ?_) | refine b7 (cb h2 0 ?_) | refine a8 (db h2 0 ?_) | fail); simp -implicitDefEqProofs) | refine hK _ ?_ | refine hK _ _ (by rfl) ?_ | fail)
  refine l5 (g7 ?_); simp -implicitDefEqProofs [s9, f6, f7] <;> try rfl
theorem a7h (ts : List Tok) (i : Nat) (k : Int) (x : Tok) (hl : ts.length ≤ 9223372036854775807) (hx : ts[i]? = some x) (hk : x.k = k) : Row Tryz.prog 103 [vR, vI k] [rd ts i 0] (vK x) [some (rd ts (i + 1) 0)] := by
  have hi := (List.getElem?_eq_some_iff.1 hx).1
  have h1 := a2c ts i 0
  rw [a3v hx] at h1
  have h2 := p7 ts i 0
  have h3 := b3o ts i 0 hl
  rw [if_pos ⟨rfl, hi⟩] at h3
  obtain ⟨xk, xn, xs, xf, xt⟩ := x
  dsimp only at hk
  subst hk
  refine d7 Tryz.func103 rfl rfl (Nat.le_of_ble_eq_true rfl) ?_
  repeat' (first | refine b9 ?_ | refine b6 ?_ | refine a6 ?_ | refine b5 ?_ | refine e7 rfl ?_ | refine d9 rfl ?_ | ((first | refine b8 (fun K hK => ?_) | refine d3 e9 (fun K hK => ?_) | refine b7 (cb h1 0 ?_) | refine a8 (db h1 0 ?_) | refine b7 (cb h2 0 ?_) | refine a8 (db h2 0 ?_) | refine b7 (cb h3 0 ?_) | refine a8 (db h3 0 ?_) | fail); simp -implicitDefEqProofs) | refine hK _ ?_ | refine hK _ _ (by rfl) ?_ | fail)
  refine d6 (g7 ?_); simp -implicitDefEqProofs [s9, f6, f7] <;> try rfl
theorem a7g (ts : List Tok) (i : Nat) (e : Int) (k : Int) (h : e ≠ 0 ∨ (nxt ts i).k ≠ k) : Row Tryz.prog 103 [vR, vI k] [rd ts i e] (vK zK) [some (rd ts i (er e))] := by
  have h1 := a2c ts i e
  have h2 := p7 ts i e
  have h3 := a6e ts i e
  obtain ⟨⟨xk, xn, xs, xf, xt⟩, hx⟩ : ∃ x, nxt ts i = x := ⟨_, rfl⟩
  rw [hx] at h1 h
  dsimp only at h
  refine d7 Tryz.func103 rfl rfl (Nat.le_of_ble_eq_true rfl) ?_
  by_cases he : e = 0
  · have hk : ¬ xk = k := by rcases h with h | h; exact absurd he h; exact h
    subst he
    repeat' (first | refine b9 ?_ | refine b6 ?_ | refine a6 ?_ | refine b5 ?_ | refine e7 rfl ?_ | refine d9 rfl ?_ | ((first | refine b8 (fun K hK => ?_) | refine d3 e9 (fun K hK => ?_) | refine b7 (cb h1 0 ?_) | refine a8 (db h1 0 ?_) | refine b7 (cb h2 0 ?_) | refine a8 (db h2 0 ?_) | refine b7 (cb h3 0 ?_) | refine a8 (db h3 0 ?_) | fail); simp -implicitDefEqProofs [hk]) | refine hK _ ?_ | refine hK _ _ (by rfl) ?_ | fail)
    refine d6 (g7 ?_); simp -implicitDefEqProofs [s9, f6, f7, zK] <;> try rfl
  · repeat' (first | refine b9 ?_ | refine b6 ?_ | refine a6 ?_ | refine b5 ?_ | refine e7 rfl ?_ | refine d9 rfl ?_ | ((first | refine b8 (fun K hK => ?_) | refine d3 e9 (fun K hK => ?_) | refine b7 (cb h1 0 ?_) | refine a8 (db h1 0 ?_) | refine b7 (cb h2 0 ?_) | refine a8 (db h2 0 ?_) | refine b7 (cb h3 0 ?_) | refine a8 (db h3 0 ?_) | fail); simp -implicitDefEqProofs [he]) | refine hK _ ?_ | refine hK _ _ (by rfl) ?_ | fail)
    refine d6 (g7 ?_); simp -implicitDefEqProofs [s9, f6, f7, zK] <;> try rfl
theorem a4o (ts : List Tok) (i : Nat) (e : Int) (h : e ≠ 0) (a : Int) (t : VT) : Row Tryz.prog 68 [vR, vI a, vT t] [rd ts i e] (vT z0) [some (rd ts i e)] := by
  have h2 := p7 ts i e
  obtain ⟨x, l⟩ := t
  refine d7 Tryz.func68 rfl rfl (Nat.le_of_ble_eq_true rfl) ?_
  repeat' (first | refine b9 ?_ | refine b6 ?_ | refine a6 ?_ | refine b5 ?_ | refine e7 rfl ?_ | refine d9 rfl ?_ | ((first | refine b8 (fun K hK => ?_) | refine d3 e9 (fun K hK => ?_) | refine b7 (cb h2 0 ?_) | refine a8 (db h2 0 ?_) | fail); simp -implicitDefEqProofs [h]) | refine hK _ ?_ | refine hK _ _ (by rfl) ?_ | fail)
  refine d6 (g7 ?_); simp -implicitDefEqProofs [s9, f6, f7, z0] <;> try rfl
theorem a2f (ts : List Tok) (i : Nat) (a : Nat) (x : Lab) (l : List VT) (ha : a < ts.length) (h0 : 0 < i) (hi : i ≤ ts.length) (hl : ts.length ≤ 9223372036854775807) : Row Tryz.prog 68 [vR, vI a, vT (.mk x l)] [rd ts i 0] (vT (.mk ⟨x.k, x.n, x.s, frT ts a, toT ts (i - 1)⟩ l)) [some (rd ts i 0)] := by
  have h2 := p7 ts i 0
  obtain ⟨y, hy⟩ : ∃ y, ts[a]? = some y := ⟨_, List.getElem?_eq_getElem ha⟩
  have hy' := (List.getElem?_eq_some_iff.1 hy).2
  have hi1 : i - 1 < ts.length := by omega
  obtain ⟨z, hz⟩ : ∃ z, ts[i - 1]? = some z := ⟨_, List.getElem?_eq_getElem hi1⟩
  have hz' := (List.getElem?_eq_some_iff.1 hz).2
  rw [show frT ts a = y.f by unfold frT; rw [a3v hy], show toT ts (i - 1) = z.t by unfold toT; rw [a3v hz]]
  obtain ⟨j, rfl⟩ : ∃ j, i = j + 1 := ⟨i - 1, by omega⟩
  have e1 : j + 1 - 1 = j := by omega
  rw [e1] at hz hi1
  have hz' := (List.getElem?_eq_some_iff.1 hz).2
  have w : IntKind.i64.wrap (((j + 1 : Nat) : Int) - 1) = (j : Nat) := by rw [l4 _ (by omega) (by omega)]; omega
  have w' : IntKind.i64.wrap ((j : Int) + 1 - 1) = (j : Nat) := by rw [l4 _ (by omega) (by omega)]; omega
  refine d7 Tryz.func68 rfl rfl (Nat.le_of_ble_eq_true rfl) ?_
  have wj : IntKind.i64.wrap ((j : Nat) : Int) = (j : Nat) := l4 _ (by omega) (by omega)
  repeat' (first | refine b9 ?_ | refine b6 ?_ | refine a6 ?_ | refine b5 ?_ | refine e7 rfl ?_ | refine d9 rfl ?_ | ((first | refine b8 (fun K hK => ?_) | refine d3 e9 (fun K hK => ?_) | refine b7 (cb h2 0 ?_) | refine a8 (db h2 0 ?_) | fail); simp -implicitDefEqProofs [ha, hy, hy', hz, hz', hi1, w, w', wj]) | refine hK _ ?_ | refine hK _ _ (by rfl) ?_ | fail)
  refine d6 (g7 ?_); simp -implicitDefEqProofs [s9, f6, f7] <;> try rfl
end Go.Proofs.YtbbkmijkllgfaaaGreatDoor.am
end
