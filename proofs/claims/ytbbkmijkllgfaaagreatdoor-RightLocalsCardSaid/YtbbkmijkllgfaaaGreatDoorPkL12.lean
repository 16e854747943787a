import Derived.Test.YtbbkmijkllgfaaaGreatDoorPkL11
import Derived.Test.YtbbkmijkllgfaaaGreatDoorPkL10
import Derived.Test.YtbbkmijkllgfaaaGreatDoorPkL8
import Derived.Test.YtbbkmijkllgfaaaGreatDoorPkL9
import Derived.Test.YtbbkmijkllgfaaaGreatDoorPkL4
set_option maxRecDepth 100000
set_option maxHeartbeats 4000000
section
namespace Go.Proofs.YtbbkmijkllgfaaaGreatDoor.am
open Go.ChangeShapes Go.WideShapes Go.ChangeAt Go.RowKit
open vt
set_option linter.unusedVariables false
set_option linter.unusedSimpArgs false
theorem b92 (m : VT) (L E : List VT) (hE : OkV L E) (B : Nat) (hm : p6 B m) (hL : ∀ t ∈ L, p6 B t) (hB : B ≤ 400000) (hLl : L.length ≤ 400000) (t : VT) : m7 t → t.size ≤ 400000 → Row Tryz.prog 52 [.v (.c (.ptr 0 0)), vT t] [bxV m L 0 0, arJ E] (vTy (ofP m L t).ty (ofP m L t).fo) [some (bxV m L (ofP m L t).pl (ofP m L t).er), some (arJ E)] := by
  induction t using Tr.ind with
  | h x l ih =>
  intro ht hts
  obtain ⟨hx, hl⟩ := (Tr.all_mk _ x l).1 ht
  have hlen := Tr.len_size (x := x) (l := l)
  have hms := hm.2
  have hsha := b1k x l
  have hknw := b5t m (by omega) L E (by omega) 0 0 x l hx
  have hf12 := a0l m L E 0 0 x l 12
  have hf8 := a0l m L E 0 0 x l 8
  have hf10 := a0l m L E 0 0 x l 10
  rw [if_pos rfl, if_pos rfl] at hf12 hf8 hf10
  rw [a9c]
  unfold c5x
  cases hS : j7 x l.length with
  | false =>
    rw [hS] at hsha
    rw [if_pos rfl]
    unfold a2s
    clear ih hknw hf8 hf10
    obtain ⟨mx, ml⟩ := m
    refine d7 Tryz.func52 rfl rfl (Nat.le_of_ble_eq_true rfl) ?_
    repeat' (first | refine b9 ?_ | refine b6 ?_ | refine a6 ?_ | refine b5 ?_ | refine e7 rfl ?_ | refine d9 rfl ?_ | ((first | refine b8 (fun K hK => ?_) | refine d3 e9 (fun K hK => ?_) | refine b7 (cp hsha ?_) | refine a8 (dp hsha ?_) | refine b7 (cg hf12 [0,1] ?_) | refine a8 (dg hf12 [0,1] ?_) | fail); simp -implicitDefEqProofs) | refine hK _ ?_ | refine hK _ _ (by rfl) ?_ | fail)
    refine d6 (j0 [0, 1] ?_); simp -implicitDefEqProofs [m9, f6, f7] <;> try rfl
  | true =>
  rw [hS] at hsha
  rw [if_neg (by simp)]
  clear hf12
  by_cases c17 : x.k = 17
  · rw [if_pos (.inl c17)]
    unfold a2s
    clear ih hknw hf10
    obtain ⟨mx, ml⟩ := m
    refine d7 Tryz.func52 rfl rfl (Nat.le_of_ble_eq_true rfl) ?_
    repeat' (first | refine b9 ?_ | refine b6 ?_ | refine a6 ?_ | refine b5 ?_ | refine e7 rfl ?_ | refine d9 rfl ?_ | ((first | refine b8 (fun K hK => ?_) | refine d3 e9 (fun K hK => ?_) | refine b7 (cp hsha ?_) | refine a8 (dp hsha ?_) | refine b7 (cg hf8 [0,1] ?_) | refine a8 (dg hf8 [0,1] ?_) | fail); simp -implicitDefEqProofs [c17]) | refine hK _ ?_ | refine hK _ _ (by rfl) ?_ | fail)
    refine d6 (j0 [0, 1] ?_); simp -implicitDefEqProofs [m9, f6, f7] <;> try rfl
  cases hN : c0e m L.length x with
  | false =>
    rw [hN] at hknw
    rw [if_pos (.inr rfl)]
    unfold a2s
    clear ih hf10
    obtain ⟨mx, ml⟩ := m
    refine d7 Tryz.func52 rfl rfl (Nat.le_of_ble_eq_true rfl) ?_
    repeat' (first | refine b9 ?_ | refine b6 ?_ | refine a6 ?_ | refine b5 ?_ | refine e7 rfl ?_ | refine d9 rfl ?_ | ((first | refine b8 (fun K hK => ?_) | refine d3 e9 (fun K hK => ?_) | refine b7 (cp hsha ?_) | refine a8 (dp hsha ?_) | refine b7 (cg hknw [0,1] ?_) | refine a8 (dg hknw [0,1] ?_) | refine b7 (cg hf8 [0,1] ?_) | refine a8 (dg hf8 [0,1] ?_) | fail); simp -implicitDefEqProofs [c17]) | refine hK _ ?_ | refine hK _ _ (by rfl) ?_ | fail)
    refine d6 (j0 [0, 1] ?_); simp -implicitDefEqProofs [m9, f6, f7] <;> try rfl
  | true =>
  rw [hN] at hknw
  rw [if_neg (fun h => h.elim c17 (by simp))]
  clear hf8
  have hgl : ∀ a ∈ (l.map (ofP m L)).map GV.ty, m7 a ∧ a.size ≤ 900000 := by
    intro a ha
    rw [List.map_map] at ha
    obtain ⟨y, hy, rfl⟩ := List.mem_map.1 ha
    have hys := v8 (x := x) hy
    have := (c3o hm (by omega) hL y (hl y hy) (by omega)).ty
    exact ⟨this.1, by have := this.2; show (ofP m L y).ty.size ≤ _; omega⟩
  have hru := fun F => b94 m hm.1 (by omega) L E hE (fun t h => by have := (hL t h).2; omega) (by omega) x l hx ((l.map (ofP m L)).map GV.ty) (by simp) hgl (by simp; omega) hS hN F
  obtain ⟨⟨⟨rx, rl⟩, rok, rn, re⟩, hR⟩ : ∃ R, a2p m L x ((l.map (ofP m L)).map GV.ty) = R := ⟨_, rfl⟩
  rw [hR] at hru ⊢
  dsimp only at hru ⊢
  have hfr := a0l m L E (if re = 0 then 0 else x.f) re x l 10
  obtain ⟨F, hF⟩ : ∃ F, (match (l.map (ofP m L)).find? (fun g => !decide (g.er = 0)) with
    | some g => ⟨z0T, z0T, g.pl, g.er⟩
    | none => if rok = true then ⟨.mk rx rl, .mk ⟨x.k, rn, ⟨#[]⟩, 0, 0⟩ ((l.map (ofP m L)).map GV.fo), 0, 0⟩ else a2s x (if re = 0 then 10 else re) : GV) = F := ⟨_, rfl⟩
  suffices hsuf : Row Tryz.prog 52 [.v (.c (.ptr 0 0)), vT (.mk x l)] [bxV m L 0 0, arJ E] (vTy F.ty F.fo) [some (bxV m L F.pl F.er), some (arJ E)] by
    rw [← hF] at hsuf
    exact hsuf
  have hre : rok = true → re = 0 := by
    have := c6b m L x ((l.map (ofP m L)).map GV.ty)
    rw [hR] at this
    exact this
  clear hR
  have hat : ∀ (k : Nat) ax al, l[k]? = some (.mk ax al) → ¬ (ofP m L (.mk ax al)).er = 0 → (∀ y ∈ l.take k, (ofP m L y).er = 0) → F = ⟨z0T, z0T, (ofP m L (.mk ax al)).pl, (ofP m L (.mk ax al)).er⟩ := by
    intro k ax al ha he hno
    rw [← hF, a2y (k := k) (a := ofP m L (.mk ax al)) (by rw [List.getElem?_map, ha]; rfl) (by simpa using he) (fun g hg => by
      rw [← List.map_take] at hg
      obtain ⟨y, hy, rfl⟩ := List.mem_map.1 hg
      simpa using hno y hy)]
  have hend : (∀ y ∈ l, (ofP m L y).er = 0) → F = if rok = true then ⟨.mk rx rl, .mk ⟨x.k, rn, ⟨#[]⟩, 0, 0⟩ ((l.map (ofP m L)).map GV.fo), 0, 0⟩ else a2s x (if re = 0 then 10 else re) := by
    intro hno
    rw [← hF, List.find?_eq_none.2 (fun g hg => by
      obtain ⟨y, hy, rfl⟩ := List.mem_map.1 hg
      simpa using hno y hy)]
  clear hF
  obtain ⟨Ty, hTy⟩ : ∃ Ty : List VT, (l.map (ofP m L)).map GV.ty = Ty := ⟨_, rfl⟩
  obtain ⟨Fo, hFo⟩ : ∃ Fo : List VT, (l.map (ofP m L)).map GV.fo = Fo := ⟨_, rfl⟩
  have hTl : Ty.length = l.length := by rw [← hTy]; simp
  have hFl : Fo.length = l.length := by rw [← hFo]; simp
  have hTk : ∀ k y, l[k]? = some y → Ty.take (k + 1) = Ty.take k ++ [(ofP m L y).ty] := fun k y h => by
    rw [List.take_add_one, ← hTy, List.getElem?_map, List.getElem?_map, h]; rfl
  have hFk : ∀ k y, l[k]? = some y → Fo.take (k + 1) = Fo.take k ++ [(ofP m L y).fo] := fun k y h => by
    rw [List.take_add_one, ← hFo, List.getElem?_map, List.getElem?_map, h]; rfl
  rw [hTy] at hru
  rw [hFo] at hend
  clear hTy hFo hgl
  replace hru := hru Fo
  obtain ⟨mx, ml⟩ := m
  refine d7 Tryz.func52 rfl rfl (Nat.le_of_ble_eq_true rfl) ?_
  repeat' (first | refine b9 ?_ | refine b6 ?_ | refine a6 ?_ | refine b5 ?_ | refine e7 rfl ?_ | refine d9 rfl ?_ | ((first | refine b8 (fun K hK => ?_) | refine d3 e9 (fun K hK => ?_) | refine b7 (cp hsha ?_) | refine a8 (dp hsha ?_) | refine b7 (cg hknw [0,1] ?_) | refine a8 (dg hknw [0,1] ?_) | fail); simp -implicitDefEqProofs [c17]) | refine hK _ ?_ | refine hK _ _ (by rfl) ?_ | fail)
  refine a08 35 3 [.pv (I x.k), .pv (I x.n), .pv (Sx ⟨#[]⟩), .pv .nilS, .pv (I 0), .pv (I 0)] 24 6 (by simp) (by simp) (by simp) ?_
  simp [St.nilca]
  refine a08 37 0 [.pv .nilS] 24 6 (by simp) (by simp) (by simp) ?_
  simp [St.nilca]
  refine m6 (ι := Nat) (fun k => x5 [(0, .v (.c (.ptr 0 0))), (3, .v (.c (.ptr 2 0))), (4, .v (.c (.ptr 3 0))), (5, .v (.c (.ptr 4 0))), (6, .v (.c (.ptr 5 0))), (37, vLs l), (38, vI (l.length : Nat)), (39, vI (k : Nat))] [some (bxV (.mk mx ml) L 0 0), some (arJ E), some (.box (ta (.mk x l))), some (.box (ta z0T ++ ta z0T)), some (.box [.pv (I x.k), .pv (I x.n), .pv (Sx ⟨#[]⟩), .arr 6 6 (Fo.take k).length, .pv (I 0), .pv (I 0)]), some (.box [.arr 7 6 (Ty.take k).length]), some (.arr 24 6 ((Fo.take k).map tc)), some (.arr 24 6 ((Ty.take k).map tc))]) (fun k => k ≤ l.length ∧ ∀ y ∈ l.take k, (ofP (.mk mx ml) L y).er = 0) (fun k => l.length - k) 0 ⟨Nat.zero_le _, by simp⟩ (e8 [0, 1, 2, 3, 35, 37, 42, 43] (by simp -implicitDefEqProofs) (by simp -implicitDefEqProofs) (by decide) rfl (by simp)) (fun Z hI k hk => ?_)
  obtain ⟨hk, hz⟩ := hk
  by_cases hkl : k < l.length; rotate_left
  · have : k = l.length := by omega
    subst this
    rw [List.take_length] at hz
    have hF := hend hz
    have e1 : Ty.take l.length = Ty := List.take_of_length_le (by omega)
    have e2 : Fo.take l.length = Fo := List.take_of_length_le (by omega)
    rw [e1, e2]
    clear hat hend ih hTk hFk
    repeat (first | refine b9 ?_ | refine b6 ?_ | refine a6 ?_ | refine b5 ?_ | refine e7 rfl ?_ | refine d9 rfl ?_ | ((first | refine b8 (fun K hK => ?_) | refine d3 e9 (fun K hK => ?_) | fail); simp -implicitDefEqProofs; first | refine hK _ ?_ | refine hK _ _ (by rfl) ?_ | fail) | fail)
    refine b16 6 24 6 (Fo.map tc) (by simp) ?_
    refine b16 7 24 6 (Ty.map tc) (by simp [St.frz, AO.frz]) ?_
    simp [St.frz, AV.frz, AT.frz, AC.frz, AO.frz]
    cases rok with
    | true =>
      have hre := hre rfl
      subst hre
      replace hF := hF.trans (if_pos rfl)
      subst hF
      rw [if_pos rfl] at hru
      repeat' (first | refine b9 ?_ | refine b6 ?_ | refine a6 ?_ | refine b5 ?_ | refine e7 rfl ?_ | refine d9 rfl ?_ | ((first | refine b8 (fun K hK => ?_) | refine d3 e9 (fun K hK => ?_) | refine b7 (cg hru [0,1,4,5] ?_) | refine a8 (dg hru [0,1,4,5] ?_) | fail); simp -implicitDefEqProofs) | refine hK _ ?_ | refine hK _ _ (by rfl) ?_ | fail)
      refine d6 (j0 [0, 1] ?_); simp -implicitDefEqProofs [m9, f6, f7] <;> try rfl
    | false =>
      replace hF := hF.trans (if_neg (by simp))
      subst hF
      unfold a2s
      by_cases he : re = 0
      · subst he
        simp only [if_pos] at hru hfr ⊢
        repeat' (first | refine b9 ?_ | refine b6 ?_ | refine a6 ?_ | refine b5 ?_ | refine e7 rfl ?_ | refine d9 rfl ?_ | ((first | refine b8 (fun K hK => ?_) | refine d3 e9 (fun K hK => ?_) | refine b7 (cg hru [0,1,4,5] ?_) | refine a8 (dg hru [0,1,4,5] ?_) | refine b7 (cg hfr [0,1] ?_) | refine a8 (dg hfr [0,1] ?_) | fail); simp -implicitDefEqProofs) | refine hK _ ?_ | refine hK _ _ (by rfl) ?_ | fail)
        refine d6 (j0 [0, 1] ?_); simp -implicitDefEqProofs [m9, f6, f7] <;> try rfl
      · simp only [if_neg he] at hru hfr ⊢
        repeat' (first | refine b9 ?_ | refine b6 ?_ | refine a6 ?_ | refine b5 ?_ | refine e7 rfl ?_ | refine d9 rfl ?_ | ((first | refine b8 (fun K hK => ?_) | refine d3 e9 (fun K hK => ?_) | refine b7 (cg hru [0,1,4,5] ?_) | refine a8 (dg hru [0,1,4,5] ?_) | refine b7 (cg hfr [0,1] ?_) | refine a8 (dg hfr [0,1] ?_) | fail); simp -implicitDefEqProofs) | refine hK _ ?_ | refine hK _ _ (by rfl) ?_ | fail)
        refine d6 (j0 [0, 1] ?_); simp -implicitDefEqProofs [m9, f6, f7] <;> try rfl
  obtain ⟨⟨ax, al⟩, ha⟩ : ∃ a, l[k]? = some a := ⟨_, List.getElem?_eq_getElem hkl⟩
  have ha' := (List.getElem?_eq_some_iff.1 ha).2
  have hsz1 := Tr.size_at (x := x) ha
  have hc := ih _ (List.mem_of_getElem? ha) (hl _ (List.mem_of_getElem? ha)) (by omega)
  have w2 : IntKind.i64.wrap ((k : Nat) + 1 : Int) = (k : Nat) + 1 := l4 _ (by omega) (by omega)
  have hs := hTk k _ ha
  have hf := hFk k _ ha
  have hto := hat k ax al ha
  have hTkl : (Ty.take k).length = k := by rw [List.length_take]; omega
  have hFkl : (Fo.take k).length = k := by rw [List.length_take]; omega
  obtain ⟨TK, hTK⟩ : ∃ TK, Ty.take k = TK := ⟨_, rfl⟩
  obtain ⟨FK, hFK⟩ : ∃ FK, Fo.take k = FK := ⟨_, rfl⟩
  have hnx : (ofP (.mk mx ml) L (.mk ax al)).er = 0 → ∀ y ∈ l.take (k + 1), (ofP (.mk mx ml) L y).er = 0 := by
    intro he y hy
    rw [List.take_add_one, ha] at hy
    rcases List.mem_append.1 hy with hy | hy
    · exact hz y hy
    · simp at hy; subst hy; exact he
  have hpl := c3p (.mk mx ml) L (.mk ax al)
  obtain ⟨⟨⟨bx, bl⟩, ⟨cx, cl⟩, gp, ge⟩, hG⟩ : ∃ g, ofP (.mk mx ml) L (.mk ax al) = g := ⟨_, rfl⟩
  rw [hG] at hc hto hs hf hnx hpl
  rw [hTK] at hs hTkl ⊢
  rw [hFK] at hf hFkl ⊢
  dsimp only at hc hto hpl hs hf
  clear hG hTK hFK hTk hFk hat hend ih hru hfr hf10 hre
  have b1 : (k + 1) * 72 ≤ 140737488355328 := by omega
  have b2 : k + 1 ≤ 140737488355328 := by omega
  by_cases he : ge = 0
  · have hp0 := hpl he
    subst he hp0
    have z1 : zPV (Value.int .i64 0) = some (.lit (.int .i64 0)) := rfl
    have z2 : zPV (Value.string { data := #[] }) = some (.lit (.string { data := #[] })) := rfl
    have z3 : zPV (Value.slice none 0 0) = some .nilS := rfl
    have i1 : ((k : Nat) : Int) < (k : Nat) + 1 := by omega
    have i2 : k < k + 1 := by omega
    have sF : ∀ z c : List PV, (FK.map tc ++ [z]).set k c = FK.map tc ++ [c] := fun z c => by
      rw [List.set_append_right _ _ (by rw [List.length_map]; omega), List.length_map, hFkl, Nat.sub_self]; rfl
    have sT : ∀ z c : List PV, (TK.map tc ++ [z]).set k c = TK.map tc ++ [c] := fun z c => by
      rw [List.set_append_right _ _ (by rw [List.length_map]; omega), List.length_map, hTkl, Nat.sub_self]; rfl
    repeat' (first | refine b9 ?_ | refine b6 ?_ | refine a6 ?_ | refine b5 ?_ | refine e7 rfl ?_ | refine d9 rfl ?_ | ((first | refine b8 (fun K hK => ?_) | refine d3 e9 (fun K hK => ?_) | refine b7 (cg hc [0,1] ?_) | refine a8 (dg hc [0,1] ?_) | fail); simp -implicitDefEqProofs [hkl, ha, ha', hTkl, hFkl, b1, b2, w2, z1, z2, z3, i1, i2, sF, sT]) | refine hK _ ?_ | refine hK _ _ (by rfl) ?_ | fail)
    refine ⟨k + 1, ⟨by omega, hnx rfl⟩, (by dsimp only; omega), ?_⟩
    rw [hI, hs, hf]; exact e8 [0, 1, 2, 3, 4, 5, 78, 158] (by simp -implicitDefEqProofs [hTkl, hFkl]) (by simp -implicitDefEqProofs [hTkl, hFkl]) (by decide) rfl (by simp)
  · have hF := hto he hz
    subst hF
    repeat' (first | refine b9 ?_ | refine b6 ?_ | refine a6 ?_ | refine b5 ?_ | refine e7 rfl ?_ | refine d9 rfl ?_ | ((first | refine b8 (fun K hK => ?_) | refine d3 e9 (fun K hK => ?_) | refine b7 (cg hc [0,1] ?_) | refine a8 (dg hc [0,1] ?_) | fail); simp -implicitDefEqProofs [hkl, ha, ha', he]) | refine hK _ ?_ | refine hK _ _ (by rfl) ?_ | fail)
    refine d6 (j0 [0, 1] ?_); simp -implicitDefEqProofs [m9, f6, f7] <;> try rfl
noncomputable abbrev vOfV (g : GV) : AV := .tup [.agg (ta g.ty), .agg (ta g.fo), .c (.pv (I g.pl)), .c (.pv (I g.er))]
theorem c60 (m : VT) (L E : List VT) (hE : OkV L E) (B : Nat) (hm : p6 B m) (hL : ∀ t ∈ L, p6 B t) (hB : B ≤ 400000) (hLl : L.length ≤ 400000) (t : VT) (ht : m7 t) (hts : t.size ≤ 400000) : Row Tryz.prog 32 [vT m, .v (.c (.vw 0 6 0 L.length)), vT t] [arJ E] (vOfV (ofP m L t)) [some (arJ E)] := by
  have h := b92 m L E hE B hm hL hB hLl t ht hts
  have hpl := c3p m L t
  have hbd := c5y m L t
  obtain ⟨⟨⟨ax, al⟩, ⟨bx, bl⟩, gp, ge⟩, hG⟩ : ∃ g, ofP m L t = g := ⟨_, rfl⟩
  rw [hG] at h hpl hbd ⊢
  dsimp only at h hpl hbd
  clear hG
  obtain ⟨mx, ml⟩ := m
  obtain ⟨x, l⟩ := t
  by_cases he : ge = 0
  · have hp := hpl he
    subst he hp
    clear hpl hbd
    refine d7 Tryz.func32 rfl rfl (Nat.le_of_ble_eq_true rfl) ?_
    repeat' (first | refine b9 ?_ | refine b6 ?_ | refine a6 ?_ | refine b5 ?_ | refine e7 rfl ?_ | refine d9 rfl ?_ | ((first | refine b8 (fun K hK => ?_) | refine d3 e9 (fun K hK => ?_) | refine b7 (cg h [10,0] ?_) | refine a8 (dg h [10,0] ?_) | fail); simp -implicitDefEqProofs) | refine hK _ ?_ | refine hK _ _ (by rfl) ?_ | fail)
    refine d6 (j0 [0] ?_); simp -implicitDefEqProofs [m9, f6, f7] <;> try rfl
  · obtain ⟨e1, e2⟩ := hbd he
    rw [e1, e2] at h ⊢
    clear hpl hbd e1 e2
    refine d7 Tryz.func32 rfl rfl (Nat.le_of_ble_eq_true rfl) ?_
    repeat' (first | refine b9 ?_ | refine b6 ?_ | refine a6 ?_ | refine b5 ?_ | refine e7 rfl ?_ | refine d9 rfl ?_ | ((first | refine b8 (fun K hK => ?_) | refine d3 e9 (fun K hK => ?_) | refine b7 (cg h [10,0] ?_) | refine a8 (dg h [10,0] ?_) | fail); simp -implicitDefEqProofs [he]) | refine hK _ ?_ | refine hK _ _ (by rfl) ?_ | fail)
    refine d6 (j0 [0] ?_); simp -implicitDefEqProofs [m9, f6, f7, he] <;> try rfl
theorem b1x : ∀ {l : List Int} {s : Int}, b5h l s ≠ 0 → ∀ n ∈ l, n ≠ 0
  | [], s, _, n, hn => by simp at hn
  | c :: l, s, h, n, hn => by
    unfold b5h at h
    split at h
    · exact absurd rfl h
    · rename_i hc
      rcases List.mem_cons.1 hn with rfl | hn
      · exact fun e => hc (.inl e)
      · exact b1x h n hn
theorem c3y : ∀ {l : List Int} {s : Int}, (∀ n ∈ l, 0 ≤ n) → 0 ≤ s → b5h l s ≠ 0 → b0h l s = b5h l s
  | [], s, _, _, _ => rfl
  | c :: l, s, hl, hs, h => by
    have hc := hl c (by simp)
    unfold b5h at h ⊢
    unfold b0h
    split at h
    · exact absurd rfl h
    · rename_i h1
      have e : b50 (s + c) = s + c := by unfold b50; rw [if_neg (by omega)]
      rw [if_neg h1, e, if_neg (by omega)]
      exact c3y (fun n hn => hl n (by simp [hn])) (by omega) h
theorem c62 (m : VT) : ∀ (f : Nat) (t : VT) (ins : List Int), InsOk m.kids ins → wth m.kids f t ins ≠ 0 → a3q m f t ins.length = wth m.kids f t ins
  | 0, t, ins, _, h => absurd (by unfold wth; rfl) h
  | f + 1, t, ins, hi, h => by
    unfold wth at h ⊢
    unfold a3q
    by_cases h1 : (t.lab.k = 1 ∨ t.lab.k = 2) ∧ t.kids.length = 0
    · rw [if_pos h1, if_pos h1.1, if_pos h1.2]
    rw [if_neg h1] at h ⊢
    by_cases h2 : t.lab.k = 3 ∧ t.kids.length = 1 ∧ 1 ≤ t.lab.n ∧ t.lab.n ≤ 16
    · rw [if_pos h2] at h ⊢
      rw [if_neg (by omega), if_pos h2.1, if_pos h2.2]
      have h3 : wth m.kids f (t.kids.getD 0 z0T) ins ≠ 0 := fun e => by rw [e] at h; simp at h
      rw [c62 m f _ ins hi h3, Int.mul_comm]
      rfl
    rw [if_neg h2] at h ⊢
    by_cases h4 : ¬ t.lab.k = 4 ∨ ¬ t.kids.length = 0 ∨ t.lab.n < 0 ∨ (m.kids.length : Int) ≤ t.lab.n
    · rw [if_pos h4] at h; exact absurd rfl h
    rw [if_neg h4] at h ⊢
    by_cases h5 : t.lab.n ∈ ins
    · rw [if_pos h5] at h; exact absurd rfl h
    rw [if_neg h5] at h ⊢
    by_cases h6 : a44 (m.kids.getD t.lab.n.toNat z0T) = true
    · rw [if_pos h6] at h ⊢
      obtain ⟨hi2, hlen⟩ := hi.add (z := t.lab.n) (by omega) (by omega) h5
      have hlt : t.lab.n.toNat < m.kids.length := by omega
      have hd : m.kids[t.lab.n.toNat]? = some (m.kids.getD t.lab.n.toNat z0T) := by simp [List.getD, hlt]
      obtain ⟨d, hdd⟩ : ∃ d, m.kids.getD t.lab.n.toNat z0T = d := ⟨_, rfl⟩
      rw [hdd] at h h6 hd ⊢
      unfold a44 at h6
      rw [Bool.and_eq_true, Bool.and_eq_true] at h6
      have hr : a3n m t.lab.n = some d := by
        unfold a3n
        rw [if_pos (by omega), hd]
        exact if_pos (of_decide_eq_true h6.1.1)
      rw [if_neg (by omega), if_neg (by omega), if_pos (by omega), if_pos (by omega), hr]
      dsimp only
      rw [if_neg (by omega)]
      have hne := b1x h
      have hm : (d.kids.map fun q => match ptD q with | some u => a3q m f u (ins.length + 1) | none => 0) = d.kids.map fun q => wth m.kids f (q.kids.getD 0 z0T) (ins ++ [t.lab.n]) := List.map_congr_left fun q hq => by
        unfold ptD
        rw [if_pos (List.all_eq_true.1 h6.2 q hq)]
        dsimp only
        have := c62 m f (q.kids.getD 0 z0T) (ins ++ [t.lab.n]) hi2 (hne _ (List.mem_map.2 ⟨q, hq, rfl⟩))
        rw [← this, List.length_append, List.length_singleton]
      exact (congrArg (fun l => b0h l 0) hm).trans (c3y (fun n hn => by obtain ⟨q, _, rfl⟩ := List.mem_map.1 hn; exact (b0b _ _ _ _).1) (by omega) h)
    · rw [if_neg h6] at h; exact absurd rfl h
theorem cels_P {m t : VT} (h : z7 m t ≠ 0) : a62 m t = z7 m t := c62 m _ t [] (InsOk.nil _) h
theorem a87 {m : VT} {n k : Int} (h : a23 m n k = true) : 0 ≤ n ∧ n < m.kids.length ∧ (m.kids.getD n.toNat z0T).lab.k = k ∧ b2y (m.kids.getD n.toNat z0T) k = true := by
  unfold a23 at h
  split at h
  · cases h
  rename_i h0
  split at h
  · cases h
  rename_i d hd
  rw [Bool.and_eq_true] at h
  have hl := (List.getElem?_eq_some_iff.1 hd).1
  have e : m.kids.getD n.toNat z0T = d := by simp [List.getD, hd]
  rw [e]
  exact ⟨by omega, by omega, of_decide_eq_true h.1, h.2⟩
theorem c5u {m : VT} {n : Nat} {x : Lab} (h : b53 m n x = true) : ¬ x.k = 17 ∧ c0e m n x = true := by
  unfold b53 at h
  unfold c0e
  by_cases h7 : x.k = 7
  · rw [if_pos h7] at h ⊢; exact ⟨by omega, h⟩
  rw [if_neg h7] at h ⊢
  by_cases h8 : x.k = 8
  · rw [if_pos h8] at h
    obtain ⟨a, b, c, d⟩ := a87 h
    refine ⟨by omega, ?_⟩
    rw [if_pos (.inl h8), if_pos ⟨a, b⟩]
    unfold b0z
    rw [if_pos h8, c]
    unfold b2y at d
    rw [if_pos rfl] at d
    simpa using d
  rw [if_neg h8] at h
  by_cases h9 : x.k = 9
  · rw [if_pos h9] at h
    obtain ⟨a, b, c, d⟩ := a87 h
    refine ⟨by omega, ?_⟩
    rw [if_pos (.inr (.inl h9)), if_pos ⟨a, b⟩]
    unfold b0z
    rw [if_neg h8, if_pos h9, c]
    unfold b2y at d
    rw [if_neg (by decide), if_pos rfl] at d
    simpa using d
  rw [if_neg h9] at h
  by_cases h15 : x.k = 15
  · rw [if_pos h15] at h
    obtain ⟨a, b, c, d⟩ := a87 h
    refine ⟨by omega, ?_⟩
    rw [if_pos (.inr (.inr (.inl h15))), if_pos ⟨a, b⟩]
    unfold b0z
    rw [if_neg h8, if_neg h9, if_neg (by omega), c]
    unfold b2y a44 at d
    rw [if_neg (by decide), if_neg (by decide), if_neg (by decide)] at d
    rw [Bool.and_eq_true, Bool.and_eq_true] at d
    rw [d.2]
    have := d.1.2
    cases hk : (m.kids.getD x.n.toNat z0T).kids with
    | nil => rw [hk] at this; simp at this
    | cons y l => simp
  rw [if_neg h15] at h
  by_cases h16 : x.k = 16
  · rw [if_pos h16] at h
    obtain ⟨a, b, c, d⟩ := a87 h
    refine ⟨by omega, ?_⟩
    rw [if_pos (.inr (.inr (.inr h16))), if_pos ⟨a, b⟩]
    unfold b0z
    rw [if_neg h8, if_neg h9, if_pos h16, c]
    unfold b2y at d
    rw [if_neg (by decide), if_neg (by decide), if_pos rfl] at d
    simpa using d
  rw [if_neg h16] at h
  exact ⟨by simpa using h, by rw [if_neg (by omega)]⟩
theorem two_P {op : Int} {a b : VT} (h0 : 1 ≤ op) (h1 : op ≤ 13) (h : ¬ (a9y op a b).lab.k = 0) : c0h op a b = (a9y op a b, true) := by
  unfold a9y at h ⊢
  unfold c0h
  by_cases c1 : ((op = 1 ∨ op = 2) ∧ (isT a 2 && isT b 2) = true) ∨ ((op = 3 ∨ op = 4) ∧ ((isT a 1 && isT b 1) = true ∨ (isT a 2 && isT b 2) = true))
  · rw [if_pos c1]
    rcases c1 with ⟨c, d⟩ | ⟨c, d⟩
    · rw [if_pos c, d]
    · rw [if_neg (by omega), if_pos c]
      rcases d with d | d <;> simp [d]
  rw [if_neg c1] at h ⊢
  by_cases c2 : (op = 5 ∨ op = 6 ∨ op = 7 ∨ op = 8) ∧ (isT a 1 && isT b 1) = true
  · rw [if_pos c2, if_neg (by omega), if_neg (by omega), if_pos c2.1, c2.2]
  rw [if_neg c2] at h ⊢
  by_cases c3 : 9 ≤ op ∧ (isT a 1 && isT b 1) = true
  · rw [if_pos c3, if_neg (by omega), if_neg (by omega), if_neg (by omega), c3.2]
  rw [if_neg c3] at h
  exact absurd rfl h
end Go.Proofs.YtbbkmijkllgfaaaGreatDoor.am
end
section
namespace Go.Proofs.YtbbkmijkllgfaaaGreatDoor.vt
open Go.Proofs.YtbbkmijkllgfaaaGreatDoor.am
set_option linter.unusedVariables false
section
variable {α : Type} {f : α → Bool} {l : List α} {k : Nat} {y : α}
end
structure Fc where
  name : ByteArray
  ps : List VT
  ret : VT
  decl : Int
noncomputable def fcc (x : Fc) : List PV := [Sx x.name, .sl 6 (x.ps.map tc)] ++ (tc x.ret ++ [I x.decl])
theorem fcc_mk (n : ByteArray) (ps : List VT) (rx : Lab) (rl : List VT) (d : Int) : fcc ⟨n, ps, .mk rx rl, d⟩ = [Sx n, .sl 6 (ps.map tc), I rx.k, I rx.n, Sx rx.s, .sl 6 (rl.map tc), I rx.f, I rx.t, I d] := by
  unfold fcc; rw [b5i]; rfl
abbrev Pr := Int × Int
def pcc (p : Pr) : List PV := [I p.1, I p.2]
abbrev Nn := ByteArray × ByteArray
def ncc (p : Nn) : List PV := [Sx p.1, Sx p.2]
theorem pcc_mk (a b : Int) : pcc (a, b) = [I a, I b] := rfl
theorem ncc_mk (a b : ByteArray) : ncc (a, b) = [Sx a, Sx b] := rfl
attribute [simp] fcc_mk pcc_mk ncc_mk
theorem c1j {p : Lab → Lab → Bool} (hp : ∀ x y, p x y = p y x) (t : VT) : ∀ u, eqv p t u = eqv p u t := by
  induction t using Tr.ind with
  | h x l ih =>
  intro u
  obtain ⟨y, m⟩ := u
  rw [a1m, a1m, hp x y]
  by_cases h : l.length = m.length
  · rw [h]
    congr 1
    have key : ∀ k, k ≤ m.length → a1j (eqv p) l m k = a1j (eqv p) m l k := fun k => by
      induction k with
      | zero => intro _; simp [a1j]
      | succ k ihk =>
        intro hk
        have h1 : l[k]? = some (l[k]'(by omega)) := List.getElem?_eq_getElem _
        have h2 : m[k]? = some (m[k]'(by omega)) := List.getElem?_eq_getElem _
        rw [y8 h1 h2, y8 h2 h1, ihk (by omega), ih _ (List.mem_of_getElem? h1)]
    exact key _ (Nat.le_refl _)
  · have h' : ¬ m.length = l.length := fun e => h e.symm
    simp [h, h']
theorem a9r (t u : VT) : same t u = same u t := c1j (fun x y => by simp only [pS, eq_comm]) t u
end Go.Proofs.YtbbkmijkllgfaaaGreatDoor.vt
end
section
namespace Go.Proofs.YtbbkmijkllgfaaaGreatDoor.am
open Go.ChangeShapes Go.WideShapes Go.ChangeAt Go.RowKit
open vt
set_option linter.unusedVariables false
set_option linter.unusedSimpArgs false
theorem a3r {p q : Lab → Prop} (h : ∀ x, p x → q x) (t : VT) : Tr.all p t → Tr.all q t := by
  induction t using Tr.ind with
  | h x l ih =>
  intro ht
  obtain ⟨h1, h2⟩ := (Tr.all_mk _ _ _).1 ht
  exact (Tr.all_mk _ _ _).2 ⟨h x h1, fun y hy => ih y hy (h2 y hy)⟩
theorem b9a {x : Lab} {n : Nat} (h : j7 x n = true) : 5 ≤ x.k ∧ x.k ≤ 18 := by
  unfold j7 at h
  split at h
  · omega
  split at h
  · omega
  split at h
  · omega
  split at h
  · omega
  split at h
  · omega
  split at h
  · omega
  split at h
  · omega
  · simp at h; omega
theorem c3q (m : VT) (L : List VT) (t : VT) : (ofT m L t).er = 0 → Tr.all (fun x => 5 ≤ x.k ∧ x.k ≤ 18) t := by
  induction t using Tr.ind with
  | h x l ih =>
  intro h
  rw [a4r] at h
  unfold ofC at h
  split at h
  · exact absurd h (by simp [a2s])
  rename_i h1
  have hk := b9a (x := x) (n := l.length) (by simpa using h1)
  split at h
  · exact absurd h (by simp [a2s])
  split at h
  · rename_i h2
    have : l = [] := List.length_eq_zero_iff.1 h2.1
    subst this
    exact (Tr.all_mk _ _ _).2 ⟨hk, fun y hy => by simp at hy⟩
  split at h
  · rename_i g hg
    have := List.find?_some hg
    simp [h] at this
  · rename_i hg
    refine (Tr.all_mk _ _ _).2 ⟨hk, fun y hy => ih y hy ?_⟩
    have := List.find?_eq_none.1 hg _ (List.mem_map_of_mem hy)
    simpa using this
theorem b14 (ml : List VT) : ∀ (f : Nat) (t : VT) (ins : List Int), wth ml f t ins ≠ 0 → Tr.all (fun x => 1 ≤ x.k ∧ x.k ≤ 4) t
  | 0, t, ins, h => absurd (by unfold wth; rfl) h
  | f + 1, .mk x l, ins, h => by
    unfold wth at h
    rw [show (Tr.mk x l).lab = x from rfl, show (Tr.mk x l).kids = l from rfl] at h
    by_cases h1 : (x.k = 1 ∨ x.k = 2) ∧ l.length = 0
    · have : l = [] := List.length_eq_zero_iff.1 h1.2
      subst this
      exact (Tr.all_mk _ _ _).2 ⟨by omega, fun y hy => by simp at hy⟩
    rw [if_neg h1] at h
    by_cases h2 : x.k = 3 ∧ l.length = 1 ∧ 1 ≤ x.n ∧ x.n ≤ 16
    · rw [if_pos h2] at h
      obtain ⟨y, rfl⟩ : ∃ y, l = [y] := List.length_eq_one_iff.1 h2.2.1
      have h3 : wth ml f y ins ≠ 0 := by
        intro h0
        rw [List.getD_cons_zero, h0] at h
        simp at h
      refine (Tr.all_mk _ _ _).2 ⟨by omega, fun z hz => ?_⟩
      rw [List.mem_singleton] at hz
      subst hz
      exact b14 ml f z ins h3
    rw [if_neg h2] at h
    by_cases h4 : ¬ x.k = 4 ∨ ¬ l.length = 0 ∨ x.n < 0 ∨ (ml.length : Int) ≤ x.n
    · rw [if_pos h4] at h
      exact absurd rfl h
    have : l = [] := List.length_eq_zero_iff.1 (by omega)
    subst this
    exact (Tr.all_mk _ _ _).2 ⟨by omega, fun y hy => by simp at hy⟩
theorem a16 {m t : VT} (h : z7 m t ≠ 0) : Tr.all (fun x => 1 ≤ x.k ∧ x.k ≤ 4) t := b14 _ _ _ _ h
theorem a1v {m : VT} {L : List VT} {t : VT} {a b : Int} (h : (b0f m L t a b).er = 0) : (ofT m L t).er = 0 := by
  unfold b0f at h
  split at h
  · exact absurd h (by simp [m8])
  · exact h
theorem c2h (t : VT) : ∀ u, same t (u9 u) = same t u := by
  induction t using Tr.ind with
  | h x l ih =>
  intro u
  obtain ⟨y, m⟩ := u
  unfold same
  rw [a1p, a1m, a1m, List.length_map]
  by_cases h : l.length = m.length
  · rw [h]
    have e : pS x ⟨y.k, y.n, y.s, 0, 0⟩ = pS x y := rfl
    rw [e]
    congr 1
    have key : ∀ k, k ≤ m.length → a1j (eqv pS) l (m.map u9) k = a1j (eqv pS) l m k := fun k => by
      induction k with
      | zero => intro _; simp [a1j]
      | succ k ihk =>
        intro hk
        have h1 : l[k]? = some (l[k]'(by omega)) := List.getElem?_eq_getElem _
        have h2 : m[k]? = some (m[k]'(by omega)) := List.getElem?_eq_getElem _
        have h3 : (m.map u9)[k]? = some (u9 (m[k]'(by omega))) := by rw [List.getElem?_map, h2]; rfl
        rw [y8 h1 h3, y8 h1 h2, ihk (by omega)]
        congr 1
        exact ih _ (List.mem_of_getElem? h1) _
    exact key _ (Nat.le_refl _)
  · simp [h]
theorem c5d : ∀ {p D : List VT}, a7a p D = true → b2l D p = true
  | [], [], _ => rfl
  | a :: p, d :: D, h => by
    unfold a7a at h
    unfold b2l
    rw [Bool.and_eq_true, Bool.and_eq_true] at h
    have h1 : d.kids.length = 1 := of_decide_eq_true h.1.1
    have h2 := h.1.2
    rw [c2h, a9r] at h2
    rw [c5d h.2, h2, h1]
    rfl
  | [], _ :: _, h => by unfold a7a at h; cases h
  | _ :: _, [], h => by unfold a7a at h; cases h
theorem c5b {m : VT} {x : Lab} {n : Int} (h : 0 ≤ u5 m x n) : a3m m x n = u5 m x n ∧ ∃ k, c5e m x n = some k ∧ fldA m (u5 m x n) = some k := by
  have key : a3m m x n = u5 m x n ∧ (fldA m (u5 m x n)).isSome = true ∧ u5 m x n / 64 = n := by
    unfold u5 at h ⊢
    unfold a3m
    by_cases h0 : a23 m n 30 = true
    · rw [if_pos h0] at h ⊢
      obtain ⟨a, b, c, d⟩ := a87 h0
      by_cases hs : x.s = ⟨#[]⟩
      · rw [if_pos hs] at h ⊢
        by_cases hc : (fldA m x.n).isSome = true ∧ x.n / 64 = n
        · rw [if_pos hs, if_pos hc]; exact ⟨rfl, hc⟩
        · rw [if_neg hc] at h; omega
      · rw [if_neg hs] at h ⊢
        rw [if_neg hs]
        have hd : m.kids[n.toNat]? = some (m.kids.getD n.toNat z0T) := by simp [List.getD, show n.toNat < m.kids.length by omega]
        obtain ⟨dd, hdd⟩ : ∃ dd, m.kids.getD n.toNat z0T = dd := ⟨_, rfl⟩
        rw [hdd] at h hd c d ⊢
        unfold b54
        rw [if_pos a, hd]
        dsimp only
        unfold numP
        cases hf : (dd.kids.take 64).findIdx? (fun q => decide (q.lab.s = x.s)) with
        | none => rw [hf] at h; dsimp only at h; omega
        | some i =>
          dsimp only
          have hi := (List.findIdx?_eq_some_iff_getElem.1 hf).1
          rw [List.length_take] at hi
          refine ⟨by rw [Int.toNat_of_nonneg a], ?_, by omega⟩
          unfold fldA
          rw [if_neg (by omega), show (n * 64 + (i : Int)).toNat / 64 = n.toNat by omega, show (n * 64 + (i : Int)).toNat % 64 = i by omega, hd]
          dsimp only
          rw [if_pos c]
          have hq : dd.kids[i]? = some (dd.kids[i]'(by omega)) := List.getElem?_eq_getElem _
          rw [hq]
          dsimp only
          unfold b2y a44 at d
          rw [if_neg (by decide), if_neg (by decide), if_neg (by decide), Bool.and_eq_true] at d
          have hp := List.all_eq_true.1 d.2 _ (List.mem_of_getElem? hq)
          rw [if_pos hp]
          unfold j1 at hp
          rw [Bool.and_eq_true] at hp
          have h1 := of_decide_eq_true hp.2
          rw [List.getElem?_eq_getElem (by omega)]
          rfl
    · rw [if_neg h0] at h; omega
  obtain ⟨e1, e2, e3⟩ := key
  refine ⟨e1, ?_⟩
  obtain ⟨k, hk⟩ := Option.isSome_iff_exists.1 e2
  refine ⟨k, ?_, hk⟩
  unfold c5e
  rw [e1, if_pos ⟨e2, e3⟩, hk]
theorem rul_P {m : VT} {L : List VT} {x : Lab} {p : List VT} (hs : j7 x p.length = true) (h17 : ¬ x.k = 17) (hp : ¬ (p.length = 0 ∧ ¬ x.k = 16)) (h : (r7 m x p).2.2 = 0) : a2p m L x p = ⟨(r7 m x p).1, true, (r7 m x p).2.1, 0⟩ := by
  have hk := b9a hs
  obtain ⟨R, hR⟩ : ∃ R, r7 m x p = R := ⟨_, rfl⟩
  rw [hR] at h ⊢
  unfold r7 at hR
  unfold a2p
  have leaf : ¬ (x.k = 5 ∨ x.k = 6 ∨ x.k = 7 ∨ x.k = 8 ∨ x.k = 9 ∨ x.k = 18) := fun e => by
    unfold j7 at hs
    refine hp ⟨?_, by omega⟩
    by_cases e6 : x.k = 6
    · rw [if_neg (by omega), if_pos e6, Bool.and_eq_true] at hs; exact of_decide_eq_true hs.1
    · rw [if_pos (by omega)] at hs; exact of_decide_eq_true hs
  rw [if_neg (by omega), if_neg (by omega), if_neg (by omega)]
  by_cases k10 : x.k = 10
  · rw [if_pos k10]
    have hop : 1 ≤ x.n ∧ x.n ≤ 13 := by
      unfold j7 at hs
      rw [if_neg (by omega), if_neg (by omega), if_neg (by omega), if_pos k10, Bool.and_eq_true, Bool.and_eq_true] at hs
      exact ⟨of_decide_eq_true hs.1.2, of_decide_eq_true hs.2⟩
    by_cases c : ¬ (a9y x.n (p.getD 0 z0T) (p.getD 1 z0T)).lab.k = 0
    · rw [if_pos ⟨k10, c⟩] at hR
      subst hR
      rw [two_P hop.1 hop.2 c]
    · rw [if_neg (fun e => c e.2)] at hR
      simp [k10] at hR
      rw [← hR] at h; simp at h
  rw [if_neg k10]
  rw [if_neg (fun e => k10 e.1)] at hR
  by_cases k11 : x.k = 11
  · rw [if_pos k11]
    by_cases c : (x.n = 1 ∧ isT (p.getD 0 z0T) 1 = true) ∨ (x.n = 2 ∧ isT (p.getD 0 z0T) 2 = true)
    · rw [if_pos ⟨k11, c⟩] at hR
      subst hR
      have : oneB x.n (p.getD 0 z0T) = true := by
        unfold oneB
        rcases c with ⟨c, d⟩ | ⟨c, d⟩
        · rw [c, d]; rfl
        · rw [c, d]; rfl
      rw [this]
    · rw [if_neg (fun e => c e.2)] at hR
      simp [k11] at hR
      rw [← hR] at h; simp at h
  rw [if_neg k11]
  rw [if_neg (fun e => k11 e.1)] at hR
  by_cases k12 : x.k = 12
  · rw [if_pos k12]
    by_cases c : (p.getD 0 z0T).lab.k = 3 ∧ (p.getD 0 z0T).kids.length = 1 ∧ isT (p.getD 1 z0T) 1 = true
    · rw [if_pos ⟨k12, c⟩] at hR
      subst hR
      unfold b0d
      rw [if_pos c]
      rfl
    · rw [if_neg (fun e => c e.2)] at hR
      simp [k12] at hR
      rw [← hR] at h; simp at h
  rw [if_neg k12]
  rw [if_neg (fun e => k12 e.1)] at hR
  by_cases k13 : x.k = 13
  · rw [if_pos k13]
    by_cases c : (p.getD 0 z0T).lab.k = 4 ∧ (p.getD 0 z0T).kids.length = 0
    · rw [if_pos ⟨k13, c⟩] at hR
      by_cases g : u5 m x (p.getD 0 z0T).lab.n < 0
      · rw [if_pos g] at hR; rw [← hR] at h; simp at h
      · rw [if_neg g] at hR
        subst hR
        obtain ⟨e1, k, e2, e3⟩ := c5b (m := m) (x := x) (n := (p.getD 0 z0T).lab.n) (by omega)
        unfold b7k
        rw [if_pos c, e2, e3, e1]
        rfl
    · rw [if_neg (fun e => c e.2)] at hR
      simp [k13] at hR
      rw [← hR] at h; simp at h
  rw [if_neg k13]
  rw [if_neg (fun e => k13 e.1)] at hR
  by_cases k15 : x.k = 15
  · rw [if_neg (by omega), if_pos k15]
    by_cases c : a7a p (m.kids.getD x.n.toNat z0T).kids = true
    · rw [if_pos ⟨k15, c⟩] at hR
      subst hR
      rw [c5d c]
    · rw [if_neg (fun e => c e.2)] at hR
      simp [k15] at hR
      rw [← hR] at h; simp at h
  rw [if_neg (fun e => k15 e.1)] at hR
  by_cases k16 : x.k = 16
  · rw [if_neg (by omega), if_neg k15, if_pos k16]
    by_cases c : a7a p ((m.kids.getD x.n.toNat z0T).kids.getD 0 z0T).kids = true
    · rw [if_pos ⟨k16, c⟩] at hR
      subst hR
      rw [c5d c]
    · rw [if_neg (fun e => c e.2)] at hR
      simp [k16] at hR
      rw [← hR] at h; simp at h
  rw [if_neg (fun e => k16 e.1)] at hR
  have k14 : x.k = 14 := by omega
  rw [if_pos k14]
  rw [if_neg (fun e => e k14)] at hR
  by_cases c : p.all (fun a => same a (p.getD 0 z0T)) = true
  · rw [if_pos c] at hR
    by_cases g : z7 m (.mk ⟨3, p.length, ⟨#[]⟩, 0, 0⟩ [p.getD 0 z0T]) = 0
    · rw [if_pos g] at hR; rw [← hR] at h; simp at h
    · rw [if_neg g] at hR
      subst hR
      unfold b51
      rw [if_pos, if_neg (by rw [cels_P g]; exact g)]
      rw [List.all_eq_true]
      intro a ha
      rw [a9r]
      exact List.all_eq_true.1 c a (List.mem_of_mem_drop ha)
  · rw [if_neg c] at hR; rw [← hR] at h; simp at h
theorem ofP_of (m : VT) (L : List VT) (t : VT) : (ofT m L t).er = 0 → ofP m L t = ofT m L t := by
  induction t using Tr.ind with
  | h x l ih =>
  intro h
  obtain ⟨R, hR⟩ : ∃ R, ofT m L (.mk x l) = R := ⟨_, rfl⟩
  rw [hR] at h ⊢
  rw [a4r] at hR
  unfold ofC at hR
  rw [a9c]
  unfold c5x
  by_cases hs : j7 x l.length = false
  · rw [if_pos hs] at hR; rw [← hR] at h; simp [a2s] at h
  rw [if_neg hs] at hR ⊢
  by_cases hn : b53 m L.length x = false
  · rw [if_pos hn] at hR; rw [← hR] at h; simp [a2s] at h
  rw [if_neg hn] at hR
  have hs : j7 x l.length = true := by simpa using hs
  have hn : b53 m L.length x = true := by simpa using hn
  obtain ⟨h17, hkn⟩ := c5u hn
  rw [if_neg (by rw [hkn]; simp [h17])]
  by_cases hl : l.length = 0 ∧ ¬ x.k = 16
  · rw [if_pos hl] at hR
    have : l = [] := List.length_eq_zero_iff.1 hl.1
    subst this
    subst hR
    have hk := b9a hs
    have hkk : x.k = 5 ∨ x.k = 6 ∨ x.k = 7 ∨ x.k = 8 ∨ x.k = 9 ∨ x.k = 18 := by
      unfold j7 at hs
      by_cases a : x.k = 5 ∨ x.k = 7 ∨ x.k = 8 ∨ x.k = 9 ∨ x.k = 18
      · omega
      rw [if_neg a] at hs
      by_cases b : x.k = 6
      · omega
      rw [if_neg b] at hs
      simp at hs
      omega
    have e : a2p m L x [] = ⟨c3b m L x [], true, x.n, 0⟩ := by
      unfold a2p c3b
      by_cases k7 : x.k = 7
      · rw [if_pos k7, if_pos k7]
      rw [if_neg k7, if_neg k7]
      by_cases k8 : x.k = 8
      · rw [if_pos k8, if_pos k8]
      rw [if_neg k8, if_neg k8]
      by_cases k9 : x.k = 9
      · rw [if_pos k9, if_pos k9]
      rw [if_neg k9, if_neg k9, if_neg (by omega), if_neg (by omega), if_neg (by omega), if_neg (by omega), if_neg (by omega), if_neg (by omega), if_neg (by omega)]
      by_cases k18 : x.k = 18
      · rw [if_pos k18, if_pos k18]
      rw [if_neg k18, if_neg k18]
    simp only [List.map_nil, List.find?_nil]
    rw [e, if_pos rfl]
  rw [if_neg hl] at hR
  cases hf : (l.map (ofT m L)).find? (fun g => !decide (g.er = 0)) with
  | some g =>
    rw [hf] at hR
    have := List.find?_some hf
    dsimp only at hR
    subst hR
    simp [h] at this
  | none =>
    rw [hf] at hR
    dsimp only at hR
    have hz : ∀ y ∈ l, (ofT m L y).er = 0 := fun y hy => by
      have := List.find?_eq_none.1 hf _ (List.mem_map_of_mem hy)
      simpa using this
    have hm : l.map (ofP m L) = l.map (ofT m L) := List.map_congr_left fun y hy => ih y hy (hz y hy)
    rw [hm, hf]
    dsimp only
    by_cases hr : (r7 m x ((l.map (ofT m L)).map GV.ty)).2.2 = 0
    · rw [if_pos hr] at hR
      subst hR
      rw [rul_P (by simpa using hs) h17 (by simpa using hl) hr, if_pos rfl]
    · rw [if_neg hr] at hR
      subst hR
      exact absurd h hr
noncomputable def a01 (m : VT) (L : List VT) (t : VT) : List VT :=
  if t.kids.length = 0 then L
  else if t.lab.k = 20 then L ++ [(ofP m L (t.kids.getD 0 z0T)).ty]
  else if t.lab.k = 21 then L ++ [l3 (t.kids.getD 0 z0T)]
  else L
noncomputable def bwT (brg : List VT → VT → List VT) : List Nat → VT → List VT → List VT
  | [], t, L => L
  | i :: r, t, L => bwT brg r (t.kids.getD i z0T) (if t.lab.k = 29 then (t.kids.take i).foldl brg L else if t.lab.k = 25 ∧ i = 2 then L ++ [tyT 1] else L)
theorem b8n (m ret : VT) (L : List VT) (x : Lab) : ∀ (l : List VT) (i k : Nat), (y3 m ret L x i l)[k]? = (l[k]?).map (a3w m ret L x (i + k))
  | [], i, k => by simp [y3]
  | y :: l, i, 0 => by simp [y3]
  | y :: l, i, k + 1 => by
    unfold y3
    rw [List.getElem?_cons_succ, List.getElem?_cons_succ, b8n m ret L x l (i + 1) k, show i + 1 + k = i + (k + 1) by omega]
theorem a6z (m ret : VT) (x : Lab) : ∀ (l L acc : List VT), (a2u m ret x l L acc).er = 0 → ∀ (i : Nat) y, l[i]? = some y → (a0k m ret y ((l.take i).foldl (z6 m) L)).er = 0
  | [], L, acc, _, i, y, h => by simp at h
  | z :: l, L, acc, h, i, y, hy => by
    unfold a2u at h
    split at h
    · rename_i h1
      cases i with
      | zero => simp at hy; subst hy; simpa using h1
      | succ i =>
        rw [List.getElem?_cons_succ] at hy
        rw [List.take_succ_cons, List.foldl_cons]
        exact a6z m ret x l _ _ h i y hy
    · rename_i h1
      exact absurd h h1
theorem a47 {m ret : VT} {x : Lab} {l L : List VT} (h : (a0k m ret (.mk x l) L).er = 0) (h29 : ¬ x.k = 29) : (l.length : Int) = (a03 x.k).1 ∧ ∀ (i : Nat) y, l[i]? = some y → (a3w m ret L x i y).er = 0 := by
  rw [a06] at h
  split at h
  · exact absurd h (by simp [m8])
  rename_i hs
  have hs : b0g x l = true := by simpa using hs
  unfold b0g at hs
  rw [if_neg h29, Bool.and_eq_true] at hs
  refine ⟨of_decide_eq_true hs.1, fun i y hy => ?_⟩
  split at h
  · rename_i g hg
    have := List.find?_some hg
    simp [h] at this
  rename_i hg
  have e := b8n m ret L x l 0 i
  rw [hy, Nat.zero_add] at e
  have := List.find?_eq_none.1 hg _ (List.mem_of_getElem? e)
  simpa using this
theorem c5m {m ret : VT} {t : VT} {L : List VT} (h : (a0k m ret t L).er = 0) (hn : l3 t = t) : a01 m L t = z6 m L t := by
  obtain ⟨x, l⟩ := t
  by_cases k20 : x.k = 20
  · obtain ⟨h1, h2⟩ := a47 h (by omega)
    have hl : l.length = 1 := by unfold a03 at h1; rw [if_pos (by omega)] at h1; dsimp only at h1; omega
    obtain ⟨y, rfl⟩ := List.length_eq_one_iff.1 hl
    have h3 := h2 0 y rfl
    have h4 : (ofT m L y).er = 0 := by
      unfold a3w c3s a03 at h3
      rw [if_pos (show x.k = 20 ∨ x.k = 21 ∨ x.k = 26 ∨ x.k = 27 ∨ x.k = 28 by omega), if_neg (by dsimp only; omega), if_neg (by omega), if_neg (by omega), if_neg (by omega), if_neg (by omega), if_neg (by omega), if_neg (by omega)] at h3
      exact h3
    have a1 : a01 m L (.mk x [y]) = L ++ [(ofP m L y).ty] := by
      unfold a01
      rw [if_neg (by simp [Tr.kids]), if_pos (show (Tr.mk x [y]).lab.k = 20 from k20)]
      rfl
    have a2 : z6 m L (.mk x [y]) = L ++ [(ofT m L y).ty] := by
      unfold z6
      rw [if_pos ⟨show (Tr.mk x [y]).lab.k = 20 from k20, rfl⟩]
      rfl
    rw [a1, a2, ofP_of m L y h4]
  by_cases k21 : x.k = 21
  · obtain ⟨h1, h2⟩ := a47 h (by omega)
    have hl : l.length = 1 := by unfold a03 at h1; rw [if_pos (by omega)] at h1; dsimp only at h1; omega
    obtain ⟨y, rfl⟩ := List.length_eq_one_iff.1 hl
    rw [o8] at hn
    injection hn with _ hn
    simp only [List.map_cons, List.map_nil, List.cons.injEq, and_true] at hn
    have a1 : a01 m L (.mk x [y]) = L ++ [l3 y] := by
      unfold a01
      rw [if_neg (by simp [Tr.kids]), if_neg (show ¬ (Tr.mk x [y]).lab.k = 20 from k20), if_pos (show (Tr.mk x [y]).lab.k = 21 from k21)]
      rfl
    have a2 : z6 m L (.mk x [y]) = L ++ [y] := by
      unfold z6
      rw [if_neg (fun e => k20 e.1), if_pos ⟨show (Tr.mk x [y]).lab.k = 21 from k21, rfl⟩]
      rfl
    rw [a1, a2, hn]
  · have a1 : a01 m L (.mk x l) = L := by
      unfold a01
      split
      · rfl
      · rw [if_neg (show ¬ (Tr.mk x l).lab.k = 20 from k20), if_neg (show ¬ (Tr.mk x l).lab.k = 21 from k21)]
    have a2 : z6 m L (.mk x l) = L := by
      unfold z6
      rw [if_neg (fun e => k20 e.1), if_neg (fun e => k21 e.1)]
    rw [a1, a2]
theorem a2e {x : Lab} {l : List VT} (h : l3 (.mk x l) = .mk x l) : ∀ y ∈ l, l3 y = y := by
  rw [o8] at h
  injection h with _ h
  intro y hy
  obtain ⟨i, hi⟩ := List.mem_iff_getElem?.1 hy
  have e : (l.map l3)[i]? = l[i]? := by rw [h]
  rw [List.getElem?_map, hi] at e
  simpa using e
theorem a83 (m ret : VT) (x : Lab) : ∀ (l L acc : List VT), (a2u m ret x l L acc).er = 0 → (∀ y ∈ l, l3 y = y) → ∀ i : Nat, (l.take i).foldl (a01 m) L = (l.take i).foldl (z6 m) L
  | [], L, acc, _, _, i => by simp
  | z :: l, L, acc, h, hn, i => by
    unfold a2u at h
    split at h
    · rename_i h1
      cases i with
      | zero => rfl
      | succ i =>
        rw [List.take_succ_cons, List.foldl_cons, List.foldl_cons, c5m h1 (hn z (by simp))]
        exact a83 m ret x l _ _ h (fun y hy => hn y (by simp [hy])) i
    · rename_i h1
      exact absurd h h1
theorem a8p (brg : List VT → VT → List VT) : ∀ (path : List Nat) (t : VT) (L : List VT), Tr.all (fun x => x.k ≤ 18) t → bwT brg path t L = L
  | [], t, L, _ => rfl
  | i :: r, .mk x l, L, h => by
    obtain ⟨h1, h2⟩ := (Tr.all_mk _ _ _).1 h
    unfold bwT
    rw [if_neg (show ¬ (Tr.mk x l).lab.k = 29 from fun e => by have : x.k = 29 := e; omega), if_neg (fun e => by have : x.k = 25 := e.1; omega), show (Tr.mk x l).kids = l from rfl]
    refine a8p brg r _ L ?_
    cases hi : l[i]? with
    | none =>
      rw [List.getD_eq_getElem?_getD, hi]
      exact (Tr.all_mk _ _ _).2 ⟨by decide, fun y hy => by simp at hy⟩
    | some y =>
      rw [List.getD_eq_getElem?_getD, hi]
      exact h2 y (List.mem_of_getElem? hi)
theorem c2z (brg : List VT → VT → List VT) (path : List Nat) (L : List VT) : bwT brg path z0T L = L := a8p brg path z0T L ((Tr.all_mk _ _ _).2 ⟨by decide, fun y hy => by simp at hy⟩)
theorem b0v (m ret : VT) : ∀ (path : List Nat) (t : VT) (L : List VT), l3 t = t → (a0k m ret t L).er = 0 → bwT (a01 m) path t L = bwT (z6 m) path t L
  | [], t, L, _, _ => rfl
  | i :: r, .mk x l, L, hn, h => by
    have hk := a2e hn
    unfold bwT
    rw [show (Tr.mk x l).lab = x from rfl, show (Tr.mk x l).kids = l from rfl]
    by_cases h29 : x.k = 29
    · rw [if_pos h29, if_pos h29]
      have hb : (a2u m ret x l L []).er = 0 := by
        rw [a06] at h
        split at h
        · exact absurd h (by simp [m8])
        · exact h
      rw [a83 m ret x l L [] hb hk i]
      cases hi : l[i]? with
      | none => rw [List.getD_eq_getElem?_getD, hi]; exact (c2z _ _ _).trans (c2z _ _ _).symm
      | some y =>
        rw [List.getD_eq_getElem?_getD, hi]
        exact b0v m ret r y _ (hk y (List.mem_of_getElem? hi)) (a6z m ret x l L [] hb i y hi)
    rw [if_neg h29, if_neg h29]
    obtain ⟨h1, h2⟩ := a47 h h29
    cases hi : l[i]? with
    | none => rw [List.getD_eq_getElem?_getD, hi]; exact (c2z _ _ _).trans (c2z _ _ _).symm
    | some y =>
      rw [List.getD_eq_getElem?_getD, hi]
      have hy := hk y (List.mem_of_getElem? hi)
      have hp := h2 i y hi
      have hil := (List.getElem?_eq_some_iff.1 hi).1
      show bwT (a01 m) r y _ = bwT (z6 m) r y _
      have low : Tr.all (fun x => x.k ≤ 18) y → ∀ L', bwT (a01 m) r y L' = bwT (z6 m) r y L' := fun a L' => (a8p _ r y L' a).trans (a8p _ r y L' a).symm
      have ex : (ofT m L y).er = 0 → Tr.all (fun x => x.k ≤ 18) y := fun e => a3r (fun x hx => hx.2) y (c3q m L y e)
      unfold a3w c3s at hp
      split at hp
      · rename_i hc
        have e : (if x.k = 25 ∧ i = 2 then L ++ [tyT 1] else L) = (if x.k = 25 then L ++ [tyT 1] else L) := by
          by_cases k25 : x.k = 25
          · have e3 : a03 x.k = (3, 1) := by rw [k25]; rfl
            rw [e3] at hc h1
            dsimp only at hc h1
            rw [if_pos ⟨k25, by omega⟩, if_pos k25]
          · rw [if_neg (fun q => k25 q.1), if_neg k25]
        rw [e]
        exact b0v m ret r y _ hy hp
      split at hp
      · split at hp
        · exact absurd hp (by simp [m8])
        · rename_i hc
          exact low (a3r (fun x hx => by omega) y (a16 hc)) _
      split at hp
      · exact low (ex (a1v hp)) _
      split at hp
      · exact low (ex (a1v hp)) _
      split at hp
      · exact low (ex (a1v hp)) _
      split at hp
      · exact absurd hp (by simp [m8])
      split at hp
      · exact absurd hp (by simp [m8])
      · exact low (ex hp) _
theorem b4m (m ret : VT) (L : List VT) (B : Nat) (hm : p6 B m) (hL : ∀ t ∈ L, p6 B t) (hB : B ≤ 400000) (hLl : L.length ≤ 400000) (t : VT) (ht : m7 t) (hts : t.size ≤ 400000) (a e : Int) : Row Tryz.prog 20 [.v (.c (.ptr 0 0)), vT t] [bxJ 1 m ret L.length a e, arJ L] (.tup []) [some (bxJ 2 m ret (a01 m L t).length a e), none, some (arJ (a01 m L t))] := by
  obtain ⟨x, l⟩ := t
  unfold a01
  rw [Tr.lab, Tr.kids]
  cases l with
  | nil =>
    rw [if_pos (show ([] : List VT).length = 0 from rfl)]
    obtain ⟨mx, ml⟩ := m
    obtain ⟨rx, rl⟩ := ret
    refine d7 Tryz.func20 rfl rfl (Nat.le_of_ble_eq_true rfl) ?_
    refine a38 1 0 12 _ 24 6 L.length (L.map tc) rfl rfl (.inr rfl) (show (1 : Nat) < 2 by decide) (show (0 : Nat) < 2 by decide) ?_
    simp [St.mvw]
    repeat (first | refine b9 ?_ | refine b6 ?_ | refine a6 ?_ | refine b5 ?_ | refine e7 rfl ?_ | refine d9 rfl ?_ | ((first | refine b8 (fun K hK => ?_) | refine d3 e9 (fun K hK => ?_) | fail); simp -implicitDefEqProofs; first | refine hK _ ?_ | refine hK _ _ (by rfl) ?_ | fail) | fail)
    refine d6 (a8w [] rfl ?_); simp -implicitDefEqProofs [m9, f6, f7] <;> try rfl
  | cons y r =>
  have hn : ¬ (r.length : Int) + 1 = 0 := by omega
  have hys := Tr.size_at (x := x) (l := y :: r) (i := 0) rfl
  have hyt := ((Tr.all_mk _ _ _).1 ht).2 y (by simp)
  rw [if_neg (show ¬ (y :: r).length = 0 by simp), List.getD_cons_zero]
  by_cases c20 : x.k = 20
  · rw [if_pos c20]
    have h := c60 m L L (a1e L) B hm hL hB hLl y hyt (by omega)
    obtain ⟨⟨⟨ax, al⟩, ⟨bx, bl⟩, gp, ge⟩, hG⟩ : ∃ g, ofP m L y = g := ⟨_, rfl⟩
    rw [hG] at h ⊢
    dsimp only at h ⊢
    clear hG
    have hb := a1c m ret L L (a1e L) (by omega) a e ax al
    have hl1 : (L ++ [Tr.mk ax al]).length = L.length + 1 := by simp
    rw [hl1]
    obtain ⟨yx, yl⟩ := y
    obtain ⟨mx, ml⟩ := m
    obtain ⟨rx, rl⟩ := ret
    refine d7 Tryz.func20 rfl rfl (Nat.le_of_ble_eq_true rfl) ?_
    repeat' (first | refine b9 ?_ | refine b6 ?_ | refine a6 ?_ | refine b5 ?_ | refine e7 rfl ?_ | refine d9 rfl ?_ | ((first | refine b8 (fun K hK => ?_) | refine d3 e9 (fun K hK => ?_) | refine b7 (cg h [1] ?_) | refine a8 (dg h [1] ?_) | refine b7 (cgJ hb 0 rfl ?_) | refine a8 (dgJ hb 0 rfl ?_) | fail); simp -implicitDefEqProofs [c20, hn]) | refine hK _ ?_ | refine hK _ _ (by rfl) ?_ | fail)
    refine l5 (a8w [] rfl ?_); simp -implicitDefEqProofs [m9, f6, f7] <;> try rfl
  rw [if_neg c20]
  by_cases c21 : x.k = 21
  · rw [if_pos c21]
    have h := a88 y (by omega)
    obtain ⟨⟨ax, al⟩, hG⟩ : ∃ g, l3 y = g := ⟨_, rfl⟩
    rw [hG] at h ⊢
    clear hG
    have hb := a1c m ret L L (a1e L) (by omega) a e ax al
    have hl1 : (L ++ [Tr.mk ax al]).length = L.length + 1 := by simp
    rw [hl1]
    obtain ⟨yx, yl⟩ := y
    obtain ⟨mx, ml⟩ := m
    obtain ⟨rx, rl⟩ := ret
    refine d7 Tryz.func20 rfl rfl (Nat.le_of_ble_eq_true rfl) ?_
    repeat' (first | refine b9 ?_ | refine b6 ?_ | refine a6 ?_ | refine b5 ?_ | refine e7 rfl ?_ | refine d9 rfl ?_ | ((first | refine b8 (fun K hK => ?_) | refine d3 e9 (fun K hK => ?_) | refine b7 (cp h ?_) | refine a8 (dp h ?_) | refine b7 (cgJ hb 0 rfl ?_) | refine a8 (dgJ hb 0 rfl ?_) | fail); simp -implicitDefEqProofs [c21, hn]) | refine hK _ ?_ | refine hK _ _ (by rfl) ?_ | fail)
    refine l5 (a8w [] rfl ?_); simp -implicitDefEqProofs [m9, f6, f7] <;> try rfl
  · rw [if_neg c21]
    obtain ⟨yx, yl⟩ := y
    obtain ⟨mx, ml⟩ := m
    obtain ⟨rx, rl⟩ := ret
    refine d7 Tryz.func20 rfl rfl (Nat.le_of_ble_eq_true rfl) ?_
    refine a38 1 0 12 _ 24 6 L.length (L.map tc) rfl rfl (.inr rfl) (show (1 : Nat) < 2 by decide) (show (0 : Nat) < 2 by decide) ?_
    simp [St.mvw]
    repeat (first | refine b9 ?_ | refine b6 ?_ | refine a6 ?_ | refine b5 ?_ | refine e7 rfl ?_ | refine d9 rfl ?_ | ((first | refine b8 (fun K hK => ?_) | refine d3 e9 (fun K hK => ?_) | fail); simp -implicitDefEqProofs [c20, c21, hn]; first | refine hK _ ?_ | refine hK _ _ (by rfl) ?_ | fail) | fail)
    refine l5 (a8w [] rfl ?_); simp -implicitDefEqProofs [m9, f6, f7] <;> try rfl
theorem c1o {m : VT} {L : List VT} {B : Nat} (hm : p6 B m) (hms : m.size ≤ 1000000) (hL : ∀ t ∈ L, p6 B t) {t : VT} (ht : m7 t) (hts : t.size ≤ 1000000) : (∀ y ∈ a01 m L t, p6 (B + t.size) y) ∧ (a01 m L t).length ≤ L.length + 1 := by
  obtain ⟨x, l⟩ := t
  have hL' : ∀ y ∈ L, p6 (B + (Tr.mk x l).size) y := fun y hy => (hL y hy).le (by omega)
  have hin : ∀ z, p6 (B + (Tr.mk x l).size) z → (∀ y ∈ L ++ [z], p6 (B + (Tr.mk x l).size) y) ∧ (L ++ [z]).length ≤ L.length + 1 := fun z hz => ⟨fun y hy => by
    rcases List.mem_append.1 hy with hy | hy
    · exact hL' y hy
    · rw [List.mem_singleton.1 hy]; exact hz, by simp⟩
  unfold a01
  rw [Tr.lab, Tr.kids]
  cases l with
  | nil => rw [if_pos (show ([] : List VT).length = 0 from rfl)]; exact ⟨hL', by omega⟩
  | cons y r =>
  have hys := Tr.size_at (x := x) (l := y :: r) (i := 0) rfl
  have hyt := ((Tr.all_mk _ _ _).1 ht).2 y (by simp)
  rw [if_neg (show ¬ (y :: r).length = 0 by simp), List.getD_cons_zero]
  split
  · have := (c3o hm hms hL y hyt (by omega)).ty
    exact hin _ (this.le (by omega))
  split
  · exact hin _ ⟨c5v y hyt, by rw [a2d]; omega⟩
  · exact ⟨hL', by omega⟩
def b5z : List Nat → VT → Option VT
  | [], t => some t
  | i :: r, t => (t.kids[i]?).bind (b5z r)
theorem a25 {p : Lab → Prop} : ∀ (path : List Nat) (t y : VT), Tr.all p t → b5z path t = some y → p y.lab
  | [], .mk x l, y, h, e => by
    obtain rfl := Option.some.inj e
    exact ((Tr.all_mk _ _ _).1 h).1
  | i :: r, .mk x l, y, h, e => by
    unfold b5z at e
    obtain ⟨z, hz, hy⟩ := Option.bind_eq_some_iff.1 e
    exact a25 r z y (((Tr.all_mk _ _ _).1 h).2 z (List.mem_of_getElem? hz)) hy
theorem of_loc (m : VT) (L : List VT) (t : VT) : (ofT m L t).er = 0 → Tr.all (fun x : Lab => x.k ≤ 18 ∧ (x.k = 7 → 0 ≤ x.n ∧ x.n < (L.length : Int))) t := by
  induction t using Tr.ind with
  | h x l ih =>
  intro h
  have hk := ((Tr.all_mk _ _ _).1 (c3q m L _ h)).1
  rw [a4r] at h
  unfold ofC at h
  split at h
  · exact absurd h (by simp [a2s])
  split at h
  · exact absurd h (by simp [a2s])
  rename_i hn
  have hn : b53 m L.length x = true := by simpa using hn
  have h7 : x.k ≤ 18 ∧ (x.k = 7 → 0 ≤ x.n ∧ x.n < L.length) := ⟨hk.2, fun e => by
    unfold b53 at hn
    rw [if_pos e, Bool.and_eq_true] at hn
    exact ⟨of_decide_eq_true hn.1, of_decide_eq_true hn.2⟩⟩
  split at h
  · rename_i h2
    have : l = [] := List.length_eq_zero_iff.1 h2.1
    subst this
    exact (Tr.all_mk _ _ _).2 ⟨h7, fun y hy => by simp at hy⟩
  split at h
  · rename_i g hg
    have := List.find?_some hg
    simp [h] at this
  · rename_i hg
    refine (Tr.all_mk _ _ _).2 ⟨h7, fun y hy => ih y hy ?_⟩
    have := List.find?_eq_none.1 hg _ (List.mem_map_of_mem hy)
    simpa using this
theorem b68 (m ret : VT) : ∀ (path : List Nat) (t : VT) (L : List VT) (y : VT), (a0k m ret t L).er = 0 → b5z path t = some y → y.lab.k = 7 → 0 ≤ y.lab.n ∧ y.lab.n < (bwT (z6 m) path t L).length
  | [], t, L, y, h, e, k7 => by
    obtain rfl := Option.some.inj e
    obtain ⟨x, l⟩ := t
    exfalso
    have k7 : x.k = 7 := k7
    have := (a47 h (by omega)).1
    unfold a03 at this
    rw [k7] at this
    simp at this
  | i :: r, .mk x l, L, z, h, e, k7 => by
    unfold b5z at e
    obtain ⟨y, hi, hz⟩ := Option.bind_eq_some_iff.1 e
    have hi : l[i]? = some y := hi
    unfold bwT
    rw [show (Tr.mk x l).lab = x from rfl, show (Tr.mk x l).kids = l from rfl, List.getD_eq_getElem?_getD, hi]
    by_cases h29 : x.k = 29
    · rw [if_pos h29]
      have hb : (a2u m ret x l L []).er = 0 := by
        rw [a06] at h
        split at h
        · exact absurd h (by simp [m8])
        · exact h
      exact b68 m ret r y _ z (a6z m ret x l L [] hb i y hi) hz k7
    rw [if_neg h29]
    obtain ⟨h1, h2⟩ := a47 h h29
    have hp := h2 i y hi
    have hil := (List.getElem?_eq_some_iff.1 hi).1
    show 0 ≤ z.lab.n ∧ z.lab.n < (bwT (z6 m) r y _).length
    have ex : (ofT m L y).er = 0 → ∀ c : Prop, [Decidable c] → 0 ≤ z.lab.n ∧ z.lab.n < (bwT (z6 m) r y (if c then L ++ [tyT 1] else L)).length := fun e c _ => by
      have a := of_loc m L y e
      have b := (a25 r y z a hz).2 k7
      rw [a8p _ r y _ (a3r (fun x hx => hx.1) y a)]
      split
      · rw [List.length_append]; simp; omega
      · exact b
    unfold a3w c3s at hp
    split at hp
    · rename_i hc
      have e : (if x.k = 25 ∧ i = 2 then L ++ [tyT 1] else L) = (if x.k = 25 then L ++ [tyT 1] else L) := by
        by_cases k25 : x.k = 25
        · have e3 : a03 x.k = (3, 1) := by rw [k25]; rfl
          rw [e3] at hc h1
          dsimp only at hc h1
          rw [if_pos ⟨k25, by omega⟩, if_pos k25]
        · rw [if_neg (fun q => k25 q.1), if_neg k25]
      rw [e]
      exact b68 m ret r y _ z hp hz k7
    split at hp
    · split at hp
      · exact absurd hp (by simp [m8])
      · rename_i hc
        have := a25 r y z (a16 hc) hz
        omega
    split at hp
    · exact ex (a1v hp) _
    split at hp
    · exact ex (a1v hp) _
    split at hp
    · exact ex (a1v hp) _
    split at hp
    · exact absurd hp (by simp [m8])
    split at hp
    · exact absurd hp (by simp [m8])
    · exact ex hp _
theorem c4y (t : VT) (h : l3 t = t) : u9 t = t := by
  rw [← h]
  exact (nl_bar t).1
theorem a9b {k n : Int} {l : List VT} (h : ∀ y ∈ l, l3 y = y) : l3 (.mk ⟨k, n, ⟨#[]⟩, 0, 0⟩ l) = .mk ⟨k, n, ⟨#[]⟩, 0, 0⟩ l := by
  rw [o8]
  congr 1
  conv => rhs; rw [← List.map_id l]
  exact List.map_congr_left fun y hy => h y hy
theorem c3r (m : VT) (L : List VT) (t : VT) : (ofT m L t).er = 0 → l3 (ofT m L t).fo = (ofT m L t).fo := by
  induction t using Tr.ind with
  | h x l ih =>
  intro h
  obtain ⟨R, hR⟩ : ∃ R, ofT m L (.mk x l) = R := ⟨_, rfl⟩
  rw [hR] at h ⊢
  rw [a4r] at hR
  unfold ofC at hR
  split at hR
  · subst hR; exact absurd h (by simp [a2s])
  split at hR
  · subst hR; exact absurd h (by simp [a2s])
  split at hR
  · subst hR; exact a9b (fun y hy => by cases hy)
  split at hR
  · rename_i g hg
    subst hR
    have := List.find?_some hg
    simp [h] at this
  · rename_i hg
    split at hR
    · subst hR
      refine a9b (fun y hy => ?_)
      obtain ⟨g, hg2, rfl⟩ := List.mem_map.1 hy
      have hz2 := List.find?_eq_none.1 hg _ hg2
      obtain ⟨z, hz, rfl⟩ := List.mem_map.1 hg2
      exact ih z hz (by simpa using hz2)
    · rename_i hr
      subst hR
      exact absurd h hr
end Go.Proofs.YtbbkmijkllgfaaaGreatDoor.am
end
