import Derived.Test.YthmdllhhmhbhbaaPkD10
import Derived.Test.YthmdllhhmhbhbaaPkD4
section
namespace Go.Proofs.Ythmdllhhmhbhbaa.am
open Go.ChangeShapes Go.WideShapes Go.ChangeAt Go.RowKit
open vt
set_option linter.unusedVariables false
set_option linter.unusedSimpArgs false
theorem sum_le_map {α : Type} {f g : α → Nat} : ∀ {l : List α}, (∀ y ∈ l, f y ≤ g y) → (l.map f).sum ≤ (l.map g).sum
  | [], _ => Nat.le_refl _
  | y :: l, h => by
    have h1 := h y (by simp)
    have h2 := sum_le_map (f := f) (g := g) (l := l) (fun z hz => h z (by simp [hz]))
    simp only [List.map_cons, List.sum_cons]
    omega
theorem find_at {α : Type} {p : α → Bool} {l : List α} {k : Nat} {a : α} (ha : l[k]? = some a) (hp : p a = true) (hno : ∀ x ∈ l.take k, p x = false) : l.find? p = some a := by
  obtain ⟨hk, ha'⟩ := List.getElem?_eq_some_iff.1 ha
  have e : l = l.take k ++ a :: l.drop (k + 1) := by rw [← ha', ← List.drop_eq_getElem_cons hk, List.take_append_drop]
  rw [e, List.find?_append, List.find?_eq_none.2 (fun x hx => by rw [hno x hx]; simp), List.find?_cons, hp]
  rfl
theorem kid_lt {x : Lab} {l : List VT} {y : VT} (h : y ∈ l) : y.size < (Tr.mk x l).size := by
  obtain ⟨i, hi⟩ := List.mem_iff_getElem?.1 h
  exact Tr.size_at hi
structure GV where
  ty : VT
  fo : VT
  pl : Int
  er : Int
noncomputable abbrev vGt (g : GV) : AV := vGot g.ty g.fo g.pl g.er
noncomputable def badG (x : Lab) (e : Int) : GV := ⟨z0T, z0T, x.f, e⟩
noncomputable def ofC (m : VT) (L : List VT) (x : Lab) (l : List VT) (gs : List GV) : GV :=
  if shaE x l.length = false then badG x 12
  else if namB m L.length x = false then badG x 8
  else if l.length = 0 ∧ ¬ x.k = 16 then ⟨aloT m L x l, .mk ⟨x.k, x.n, ⟨#[]⟩, 0, 0⟩ [], 0, 0⟩
  else match gs.find? (fun g => !decide (g.er = 0)) with
    | some g => g
    | none => if (ruleT m x (gs.map GV.ty)).2.2 = 0 then ⟨(ruleT m x (gs.map GV.ty)).1, .mk ⟨x.k, (ruleT m x (gs.map GV.ty)).2.1, ⟨#[]⟩, 0, 0⟩ (gs.map GV.fo), 0, 0⟩ else badG x (ruleT m x (gs.map GV.ty)).2.2
noncomputable def ofT (m : VT) (L : List VT) (t : VT) : GV := Tr.fold (ofC m L) t
theorem ofT_mk (m : VT) (L : List VT) (x : Lab) (l : List VT) : ofT m L (.mk x l) = ofC m L x l (l.map (ofT m L)) := Tr.fold_mk _ x l
theorem twoT_cases (op : Int) (a b : VT) : twoT op a b = tyT 1 ∨ twoT op a b = tyT 2 ∨ twoT op a b = z0T := by
  unfold twoT
  split
  · exact .inr (.inl rfl)
  · split
    · exact .inr (.inl rfl)
    · split
      · exact .inl rfl
      · exact .inr (.inr rfl)
theorem litT_cases (t : VT) : litT t = tyT 1 ∨ litT t = tyT 2 ∨ litT t = z0T := by
  unfold litT
  split
  · exact .inl rfl
  · split
    · exact .inr (.inl rfl)
    · exact .inr (.inr rfl)
theorem getD_size {m : VT} (n : Nat) : (m.kids.getD n z0T).size ≤ m.size := by
  by_cases h : n < m.kids.length
  · have : m.kids.getD n z0T ∈ m.kids := by simp [List.getD, h]
    have := kid_size this
    omega
  · rw [show m.kids.getD n z0T = z0T by simp [List.getD, h]]
    have := Tr.size_pos m
    simp [Tr.size_mk]; omega
theorem getD_ok {m : VT} (hm : in64 m) (n : Nat) : in64 (m.kids.getD n z0T) := by
  by_cases h : n < m.kids.length
  · have : m.kids.getD n z0T ∈ m.kids := by simp [List.getD, h]
    exact kidk_ok hm this
  · rw [show m.kids.getD n z0T = z0T by simp [List.getD, h]]
    exact z0T_ok
def Fine (B : Nat) (t : VT) : Prop := in64 t ∧ t.size ≤ B
theorem Fine.le {B C : Nat} {t : VT} (h : Fine B t) (hBC : B ≤ C) : Fine C t := ⟨h.1, Nat.le_trans h.2 hBC⟩
theorem fine_z0 {B : Nat} (h : 1 ≤ B) : Fine B z0T := ⟨z0T_ok, by simp [Tr.size_mk]; exact h⟩
theorem fine_ty {B : Nat} (h : 1 ≤ B) {k : Int} (hk : 0 ≤ k ∧ k ≤ 9) : Fine B (tyT k) := ⟨tyT_ok k hk, by rw [tyT_size]; exact h⟩
theorem fine_lit {B : Nat} (h : 1 ≤ B) (t : VT) : Fine B (litT t) := by
  rcases litT_cases t with e | e | e <;> rw [e]
  · exact fine_ty h (by omega)
  · exact fine_ty h (by omega)
  · exact fine_z0 h
theorem Fine.bare {B : Nat} {t : VT} (h : Fine B t) : Fine B (barT t) := ⟨barT_ok t h.1, by rw [barT_size]; exact h.2⟩
theorem Fine.kid {B : Nat} {t : VT} (h : Fine B t) (n : Nat) : Fine B (t.kids.getD n z0T) := ⟨getD_ok h.1 n, Nat.le_trans (getD_size n) h.2⟩
theorem aloT_fine {m : VT} {L : List VT} {B : Nat} (hm : Fine B m) (hL : ∀ t ∈ L, Fine B t) (x : Lab) (l : List VT) : Fine B (aloT m L x l) := by
  have hB : 1 ≤ B := Nat.le_trans (Tr.size_pos m) hm.2
  unfold aloT
  split
  · refine Fine.bare ?_
    by_cases h : L.length - 1 - x.n.toNat < L.length
    · exact hL _ (by simp [List.getD, h])
    · rw [show L.getD (L.length - 1 - x.n.toNat) z0T = z0T by simp [List.getD, h]]
      exact fine_z0 hB
  · split
    · exact fine_lit hB _
    · split
      · exact ((hm.kid _).kid _).bare
      · split
        · exact fine_ty hB (by omega)
        · exact fine_lit hB _
theorem ruleT_fine {m : VT} {B : Nat} (hm : Fine B m) {x : Lab} (hx : x.ok) {p : List VT} (hp : ∀ a ∈ p, Fine B a) (hpl : p.length ≤ 1000000) (hms : m.size ≤ 1000000) : Fine (B + 1) (ruleT m x p).1 ∧ (-9223372036854775808 ≤ (ruleT m x p).2.1 ∧ (ruleT m x p).2.1 ≤ 9223372036854775807) := by
  have hB : 1 ≤ B := Nat.le_trans (Tr.size_pos m) hm.2
  have g0 : Fine B (p.getD 0 z0T) := by
    by_cases h : 0 < p.length
    · exact hp _ (by simp [List.getD, h])
    · rw [show p.getD 0 z0T = z0T by simp [List.getD, h]]
      exact fine_z0 hB
  have hn := hx.2.1
  have hz : Fine (B + 1) z0T := fine_z0 (by omega)
  unfold ruleT
  split
  · refine ⟨?_, hn⟩
    rcases twoT_cases x.n (p.getD 0 z0T) (p.getD 1 z0T) with e | e | e <;> rw [e]
    · exact fine_ty (by omega) (by omega)
    · exact fine_ty (by omega) (by omega)
    · exact hz
  · split
    · exact ⟨g0.le (by omega), hn⟩
    · split
      · exact ⟨(g0.kid 0).le (by omega), hn⟩
      · split
        · split
          · exact ⟨hz, by constructor <;> (dsimp only; omega)⟩
          · rename_i h0
            refine ⟨Fine.bare ⟨fldA_ok hm.1 _, Nat.le_trans (fldA_size _ _) (Nat.le_trans hm.2 (by omega))⟩, ?_, fieldN_hi hms hx⟩
            dsimp only; omega
        · split
          · exact ⟨⟨(Tr.all_mk _ _ _).2 ⟨⟨by simp, hn, by simp, by simp⟩, fun y hy => by simp at hy⟩, by simp [Tr.size_mk]⟩, hn⟩
          · split
            · exact ⟨(((hm.kid _).kid _).bare).le (by omega), hn⟩
            · split
              · exact ⟨hz, by constructor <;> (dsimp only; omega)⟩
              · split
                · split
                  · exact ⟨hz, by constructor <;> (dsimp only; omega)⟩
                  · refine ⟨⟨(Tr.all_mk _ _ _).2 ⟨⟨by simp, by constructor <;> (dsimp only; omega), by simp, by simp⟩, fun y hy => by simp at hy; subst hy; exact g0.1⟩, ?_⟩, hn⟩
                    have := g0.2
                    rw [Tr.size_mk]; simp only [List.map_cons, List.map_nil, List.sum_cons, List.sum_nil]; omega
                · exact ⟨hz, by constructor <;> (dsimp only; omega)⟩
structure OfOk (B : Nat) (t : VT) (g : GV) : Prop where
  ty : Fine (B + t.size) g.ty
  fo : Fine t.size g.fo
  pl : -9223372036854775808 ≤ g.pl ∧ g.pl ≤ 9223372036854775807
theorem badG_ok {B : Nat} {x : Lab} {l : List VT} (hx : x.ok) (e : Int) : OfOk B (.mk x l) (badG x e) :=
  ⟨fine_z0 (by have := Tr.size_pos (Tr.mk x l); omega), fine_z0 (Tr.size_pos _), hx.2.2.1⟩
theorem ofT_ok {m : VT} {L : List VT} {B : Nat} (hm : Fine B m) (hms : m.size ≤ 1000000) (hL : ∀ t ∈ L, Fine B t) (t : VT) : in64 t → t.size ≤ 1000000 → OfOk B t (ofT m L t) := by
  induction t using Tr.ind with
  | h x l ih =>
  intro ht hts
  obtain ⟨hx, hl⟩ := (Tr.all_mk _ x l).1 ht
  have hlen := Tr.len_size (x := x) (l := l)
  rw [ofT_mk]
  unfold ofC
  have hs1 : (Tr.mk x ([] : List VT)).size ≤ (Tr.mk x l).size := by simp [Tr.size_mk]
  split
  · exact badG_ok hx _
  · split
    · exact badG_ok hx _
    · split
      · exact ⟨(aloT_fine hm hL x l).le (by omega), ⟨(Tr.all_mk _ _ _).2 ⟨⟨hx.1, hx.2.1, by simp, by simp⟩, fun y hy => by simp at hy⟩, by rw [Tr.size_mk] at hs1 ⊢; exact hs1⟩, by simp⟩
      · split
        · rename_i g hg
          obtain ⟨y, hy, rfl⟩ := List.mem_map.1 (List.mem_of_find?_eq_some hg)
          have hys := kid_lt (x := x) hy
          have := ih y hy (hl y hy) (by omega)
          exact ⟨this.ty.le (by omega), this.fo.le (by omega), this.pl⟩
        · have hk : ∀ a ∈ (l.map (ofT m L)).map GV.ty, Fine (B + ((Tr.mk x l).size - 1)) a := by
            intro a ha
            rw [List.map_map] at ha
            obtain ⟨y, hy, rfl⟩ := List.mem_map.1 ha
            have hys := kid_lt (x := x) hy
            exact (ih y hy (hl y hy) (by omega)).ty.le (by omega)
          have hp := Tr.size_pos (Tr.mk x l)
          have hr := ruleT_fine (m := m) (B := B + ((Tr.mk x l).size - 1)) (hm.le (by omega)) hx hk (by simp; omega) hms
          split
          · refine ⟨hr.1.le (by omega), ⟨(Tr.all_mk _ _ _).2 ⟨⟨hx.1, hr.2, by simp, by simp⟩, fun a ha => ?_⟩, ?_⟩, by simp⟩
            · rw [List.map_map] at ha
              obtain ⟨y, hy, rfl⟩ := List.mem_map.1 ha
              have hys := kid_lt (x := x) hy
              exact (ih y hy (hl y hy) (by omega)).fo.1
            · rw [Tr.size_mk, Tr.size_mk, List.map_map, List.map_map]
              refine Nat.add_le_add_left (sum_le_map (fun y hy => ?_)) 1
              have hys := kid_lt (x := x) hy
              exact (ih y hy (hl y hy) (by omega)).fo.2
          · exact badG_ok hx _
theorem namB_at {m : VT} {n : Nat} {x : Lab} (h : namB m n x = true) : (x.k = 7 → 0 ≤ x.n ∧ x.n < n) ∧ (x.k = 8 ∨ x.k = 9 → 0 ≤ x.n ∧ ∃ dx e, m.kids[x.n.toNat]? = some (.mk dx [e])) ∧ (x.k = 15 → 0 ≤ x.n ∧ ∃ d, m.kids[x.n.toNat]? = some d) ∧ (x.k = 16 → 0 ≤ x.n ∧ ∃ dx a b c, m.kids[x.n.toNat]? = some (.mk dx [a, b, c])) := by
  have hb : ∀ k, hasB m x.n k = true → 0 ≤ x.n ∧ ∃ d, m.kids[x.n.toNat]? = some d ∧ hasD d k = true := by
    intro k hk
    unfold hasB at hk
    split at hk
    · cases hk
    · split at hk
      · cases hk
      · rename_i d hd
        exact ⟨by omega, d, hd, by simp at hk; exact hk.2⟩
  unfold namB at h
  refine ⟨fun e => ?_, fun e => ?_, fun e => ?_, fun e => ?_⟩
  · rw [if_pos e] at h; simpa using h
  · rcases e with e | e
    · rw [if_neg (by omega), if_pos e] at h
      obtain ⟨h0, ⟨dx, dl⟩, hd, hh⟩ := hb _ h
      unfold hasD at hh
      simp [Tr.kids] at hh
      obtain ⟨a, rfl⟩ := one_of (l := dl) (of_decide_eq_true hh.1)
      exact ⟨h0, dx, a, hd⟩
    · rw [if_neg (by omega), if_neg (by omega), if_pos e] at h
      obtain ⟨h0, ⟨dx, dl⟩, hd, hh⟩ := hb _ h
      unfold hasD at hh
      simp [Tr.kids] at hh
      obtain ⟨a, rfl⟩ := one_of (l := dl) (of_decide_eq_true hh)
      exact ⟨h0, dx, a, hd⟩
  · rw [if_neg (by omega), if_neg (by omega), if_neg (by omega), if_pos e] at h
    obtain ⟨h0, d, hd, _⟩ := hb _ h
    exact ⟨h0, d, hd⟩
  · rw [if_neg (by omega), if_neg (by omega), if_neg (by omega), if_neg (by omega), if_pos e] at h
    obtain ⟨h0, ⟨dx, dl⟩, hd, hh⟩ := hb _ h
    unfold hasD at hh
    simp [Tr.kids] at hh
    obtain ⟨a, b, c, rfl⟩ := three_of (l := dl) (of_decide_eq_true hh)
    exact ⟨h0, dx, a, b, c, hd⟩
set_option maxRecDepth 100000 in
set_option maxHeartbeats 4000000 in
theorem rof_row (m : VT) (L : List VT) (B : Nat) (hm : Fine B m) (hL : ∀ t ∈ L, Fine B t) (hB : B ≤ 400000) (hLl : L.length ≤ 1000000) (t : VT) : in64 t → t.size ≤ 400000 → Row Try.prog 47 [vT m, vLs L, vT t] [] (vGt (ofT m L t)) [] := by
  induction t using Tr.ind with
  | h x l ih =>
  intro ht hts
  have hok := ofT_ok hm (by have := hm.2; omega) hL (.mk x l) ht (by omega)
  obtain ⟨hx, hl⟩ := (Tr.all_mk _ x l).1 ht
  have hlen := Tr.len_size (x := x) (l := l)
  have hms := hm.2
  have hsha := rshaE_row x l
  have hnam := rnam_row m (by omega) L x l hx
  have hb12 := rbad_row x l 12
  have hb8 := rbad_row x l 8
  rw [ofT_mk]
  unfold ofC
  cases hS : shaE x l.length with
  | false =>
    rw [hS] at hsha
    rw [if_pos rfl]
    unfold badG
    clear ih hok hnam hb8
    obtain ⟨mx, ml⟩ := m
    refine row_of Try.func47 rfl rfl (Nat.le_of_ble_eq_true rfl) ?_
    repeat' (first | refine aw_seq ?_ | refine aw_skip ?_ | refine aw_block ?_ | refine aw_exit ?_ | refine aw_cond rfl (fun _ => ?_) (fun hb => absurd hb (by decide)) | refine aw_cond rfl (fun hb => absurd hb (by decide)) (fun _ => ?_) | (refine aw_reg (fun K hK => ?_); simp -implicitDefEqProofs) | (refine aw_drw mixd (fun K hK => ?_); simp -implicitDefEqProofs) | refine hK _ ?_ | refine hK _ _ (by rfl) ?_ | (refine ar_call (cp hsha ?_); simp -implicitDefEqProofs) | (refine ard_call (dp hsha ?_); simp -implicitDefEqProofs) | (refine ar_call (cp hb12 ?_); simp -implicitDefEqProofs) | (refine ard_call (dp hb12 ?_); simp -implicitDefEqProofs) | fail)
    refine aw_ret (fin_ret ?_); simp -implicitDefEqProofs [FinP, resV, resT] <;> try rfl
  | true =>
  rw [hS] at hsha
  rw [if_neg (by simp)]
  cases hN : namB m L.length x with
  | false =>
    rw [hN] at hnam
    rw [if_pos rfl]
    unfold badG
    clear ih hok hb12
    obtain ⟨mx, ml⟩ := m
    refine row_of Try.func47 rfl rfl (Nat.le_of_ble_eq_true rfl) ?_
    repeat' (first | refine aw_seq ?_ | refine aw_skip ?_ | refine aw_block ?_ | refine aw_exit ?_ | refine aw_cond rfl (fun _ => ?_) (fun hb => absurd hb (by decide)) | refine aw_cond rfl (fun hb => absurd hb (by decide)) (fun _ => ?_) | (refine aw_reg (fun K hK => ?_); simp -implicitDefEqProofs) | (refine aw_drw mixd (fun K hK => ?_); simp -implicitDefEqProofs) | refine hK _ ?_ | refine hK _ _ (by rfl) ?_ | (refine ar_call (cp hsha ?_); simp -implicitDefEqProofs) | (refine ard_call (dp hsha ?_); simp -implicitDefEqProofs) | (refine ar_call (cp hnam ?_); simp -implicitDefEqProofs) | (refine ard_call (dp hnam ?_); simp -implicitDefEqProofs) | (refine ar_call (cp hb8 ?_); simp -implicitDefEqProofs) | (refine ard_call (dp hb8 ?_); simp -implicitDefEqProofs) | fail)
    refine aw_ret (fin_ret ?_); simp -implicitDefEqProofs [FinP, resV, resT] <;> try rfl
  | true =>
  rw [hN] at hnam
  rw [if_neg (by simp)]
  clear hb12 hb8
  obtain ⟨n7, n89, n15, n16⟩ := namB_at hN
  by_cases h0 : l.length = 0 ∧ ¬ x.k = 16
  · rw [if_pos h0]
    obtain ⟨l0, k16⟩ := h0
    have : l = [] := List.eq_nil_of_length_eq_zero l0
    subst this
    have hal := ralone_row m (by omega) L (fun t h => by have := (hL t h).2; omega) hLl x [] n7 n89
    obtain ⟨⟨bx, bl⟩, hbb⟩ : ∃ b, aloT m L x [] = b := ⟨_, rfl⟩
    rw [hbb] at hal ⊢
    clear ih hok hbb
    obtain ⟨mx, ml⟩ := m
    refine row_of Try.func47 rfl rfl (Nat.le_of_ble_eq_true rfl) ?_
    repeat' (first | refine aw_seq ?_ | refine aw_skip ?_ | refine aw_block ?_ | refine aw_exit ?_ | refine aw_cond rfl (fun _ => ?_) (fun hb => absurd hb (by decide)) | refine aw_cond rfl (fun hb => absurd hb (by decide)) (fun _ => ?_) | (refine aw_reg (fun K hK => ?_); simp -implicitDefEqProofs [k16]) | (refine aw_drw mixd (fun K hK => ?_); simp -implicitDefEqProofs [k16]) | refine hK _ ?_ | refine hK _ _ (by rfl) ?_ | (refine ar_call (cp hsha ?_); simp -implicitDefEqProofs [k16]) | (refine ard_call (dp hsha ?_); simp -implicitDefEqProofs [k16]) | (refine ar_call (cp hnam ?_); simp -implicitDefEqProofs [k16]) | (refine ard_call (dp hnam ?_); simp -implicitDefEqProofs [k16]) | (refine ar_call (cp hal ?_); simp -implicitDefEqProofs [k16]) | (refine ard_call (dp hal ?_); simp -implicitDefEqProofs [k16]) | fail)
    refine aw_ret (fin_ret ?_); simp -implicitDefEqProofs [FinP, resV, resT] <;> try rfl
  rw [if_neg h0]
  have hgo : ¬ ((l.length : Int) = 0 ∧ ¬ x.k = 16) := fun h => h0 ⟨by omega, h.2⟩
  have hgl : ∀ a ∈ (l.map (ofT m L)).map GV.ty, in64 a ∧ a.size ≤ 900000 := by
    intro a ha
    rw [List.map_map] at ha
    obtain ⟨y, hy, rfl⟩ := List.mem_map.1 ha
    have hys := kid_lt (x := x) hy
    have := (ofT_ok hm (by omega) hL y (hl y hy) (by omega)).ty
    exact ⟨this.1, by have := this.2; show (ofT m L y).ty.size ≤ _; omega⟩
  have hru := rrule_row m hm.1 (by omega) x l hx ((l.map (ofT m L)).map GV.ty) hgl (by simp; omega) (by simpa using hS) n15 n16
  obtain ⟨⟨⟨rx, rl⟩, rn, re⟩, hR⟩ : ∃ R, ruleT m x ((l.map (ofT m L)).map GV.ty) = R := ⟨_, rfl⟩
  rw [hR] at hru ⊢
  have hbe := rbad_row x l re
  obtain ⟨F, hF⟩ : ∃ F, (match (l.map (ofT m L)).find? (fun g => !decide (g.er = 0)) with
    | some g => g
    | none => if re = 0 then ⟨.mk rx rl, .mk ⟨x.k, rn, ⟨#[]⟩, 0, 0⟩ ((l.map (ofT m L)).map GV.fo), 0, 0⟩ else badG x re : GV) = F := ⟨_, rfl⟩
  dsimp only at hF ⊢
  rw [hF]
  clear hR hok
  have hat : ∀ (k : Nat) ax al, l[k]? = some (.mk ax al) → ¬ (ofT m L (.mk ax al)).er = 0 → (∀ y ∈ l.take k, (ofT m L y).er = 0) → F = ofT m L (.mk ax al) := by
    intro k ax al ha he hno
    rw [← hF, find_at (k := k) (a := ofT m L (.mk ax al)) (by rw [List.getElem?_map, ha]; rfl) (by simpa using he) (fun g hg => by
      rw [← List.map_take] at hg
      obtain ⟨y, hy, rfl⟩ := List.mem_map.1 hg
      simpa using hno y hy)]
  have hend : (∀ y ∈ l, (ofT m L y).er = 0) → F = if re = 0 then ⟨.mk rx rl, .mk ⟨x.k, rn, ⟨#[]⟩, 0, 0⟩ ((l.map (ofT m L)).map GV.fo), 0, 0⟩ else badG x re := by
    intro hno
    rw [← hF, List.find?_eq_none.2 (fun g hg => by
      obtain ⟨y, hy, rfl⟩ := List.mem_map.1 hg
      simpa using hno y hy)]
  clear hF
  have hor : (∃ _ : ¬ l.length = 0, ¬ (l.length : Int) = 0 ∧ True) ∨ (∃ _ : l.length = 0, (l.length : Int) = 0 ∧ x.k = 16) := by
    rcases Classical.em (l.length = 0) with h | h
    · exact .inr ⟨h, by omega, Classical.byContradiction fun k => h0 ⟨h, k⟩⟩
    · exact .inl ⟨h, by omega, trivial⟩
  clear h0 hgo
  obtain ⟨Ty, hTy⟩ : ∃ Ty : List VT, (l.map (ofT m L)).map GV.ty = Ty := ⟨_, rfl⟩
  have hgt : ∀ k, ((l.take k).map (ofT m L)).map GV.ty = Ty.take k := fun k => by rw [← hTy, List.map_take, List.map_take]
  obtain ⟨Fo, hFo⟩ : ∃ Fo : List VT, (l.map (ofT m L)).map GV.fo = Fo := ⟨_, rfl⟩
  have hgf : ∀ k, ((l.take k).map (ofT m L)).map GV.fo = Fo.take k := fun k => by rw [← hFo, List.map_take, List.map_take]
  have hTl : Ty.length = l.length := by rw [← hTy]; simp
  have hFl : Fo.length = l.length := by rw [← hFo]; simp
  have hTk : ∀ k y, l[k]? = some y → Ty.take (k + 1) = Ty.take k ++ [(ofT m L y).ty] := fun k y h => by
    rw [List.take_add_one, ← hTy, List.getElem?_map, List.getElem?_map, h]; rfl
  have hFk : ∀ k y, l[k]? = some y → Fo.take (k + 1) = Fo.take k ++ [(ofT m L y).fo] := fun k y h => by
    rw [List.take_add_one, ← hFo, List.getElem?_map, List.getElem?_map, h]; rfl
  rw [hTy] at hru
  rw [hFo] at hend
  clear hTy hFo hgt hgf hgl
  obtain ⟨mx, ml⟩ := m
  rcases hor with ⟨l0, l0', k16⟩ | ⟨l0, l0', k16⟩
  all_goals (
    refine row_of Try.func47 rfl rfl (Nat.le_of_ble_eq_true rfl) ?_
    repeat' (first | refine aw_seq ?_ | refine aw_skip ?_ | refine aw_block ?_ | refine aw_exit ?_ | refine aw_cond rfl (fun _ => ?_) (fun hb => absurd hb (by decide)) | refine aw_cond rfl (fun hb => absurd hb (by decide)) (fun _ => ?_) | (refine aw_reg (fun K hK => ?_); simp -implicitDefEqProofs [l0, l0', k16]) | (refine aw_drw mixd (fun K hK => ?_); simp -implicitDefEqProofs [l0, l0', k16]) | refine hK _ ?_ | refine hK _ _ (by rfl) ?_ | (refine ar_call (cp hsha ?_); simp -implicitDefEqProofs [l0, l0', k16]) | (refine ard_call (dp hsha ?_); simp -implicitDefEqProofs [l0, l0', k16]) | (refine ar_call (cp hnam ?_); simp -implicitDefEqProofs [l0, l0', k16]) | (refine ard_call (dp hnam ?_); simp -implicitDefEqProofs [l0, l0', k16]) | fail)
    refine aw_lp (ι := Nat) (fun k => mkSt [(1, vLs L), (3, .v (.c (.ptr 0 0))), (5, .v (.c (.ptr 1 0))), (6, .v (.c (.ptr 2 0))), (7, .v (.c (.row 3 6 ((Ty.take k).map tc)))), (8, .v (.c (.row 4 6 ((Fo.take k).map tc)))), (9, vI (k : Nat))] [some (.box (ta (.mk mx ml))), some (.box (ta (.mk x l))), some (.box (ta z0T ++ (ta z0T ++ [.pv (I 0), .pv (I 0)]))), some (.row 24 6), some (.row 24 6)]) (fun k => k ≤ l.length ∧ ∀ y ∈ l.take k, (ofT (.mk mx ml) L y).er = 0) (fun k => l.length - k) 0 ⟨Nat.zero_le _, by simp⟩ (by first | (refine cov_intro [0, 1, 2, 31, 33] ?_ ?_ (by decide) rfl (by simp) <;> (simp -implicitDefEqProofs; done)) | (refine cov_intro [0, 1, 2, 34, 36] ?_ ?_ (by decide) rfl (by simp) <;> (simp -implicitDefEqProofs [k16]; done))) (fun Z hI k hk => ?_)
    obtain ⟨hk, hz⟩ := hk
    by_cases hkl : k < l.length; rotate_left
    · have : k = l.length := by omega
      subst this
      rw [List.take_length] at hz
      rw [hend hz]
      have e1 : Ty.take l.length = Ty := List.take_of_length_le (by omega)
      have e2 : Fo.take l.length = Fo := List.take_of_length_le (by omega)
      rw [e1, e2]
      by_cases he : re = 0
      · subst he
        repeat' (first | refine aw_seq ?_ | refine aw_skip ?_ | refine aw_block ?_ | refine aw_exit ?_ | refine aw_cond rfl (fun _ => ?_) (fun hb => absurd hb (by decide)) | refine aw_cond rfl (fun hb => absurd hb (by decide)) (fun _ => ?_) | (refine aw_reg (fun K hK => ?_); simp -implicitDefEqProofs) | (refine aw_drw mixd (fun K hK => ?_); simp -implicitDefEqProofs) | refine hK _ ?_ | refine hK _ _ (by rfl) ?_ | (refine ar_call (cp hru ?_); simp -implicitDefEqProofs) | (refine ard_call (dp hru ?_); simp -implicitDefEqProofs) | fail)
        refine aw_ret (fin_ret ?_); simp -implicitDefEqProofs [FinP, resV, resT] <;> try rfl
      · unfold badG
        repeat' (first | refine aw_seq ?_ | refine aw_skip ?_ | refine aw_block ?_ | refine aw_exit ?_ | refine aw_cond rfl (fun _ => ?_) (fun hb => absurd hb (by decide)) | refine aw_cond rfl (fun hb => absurd hb (by decide)) (fun _ => ?_) | (refine aw_reg (fun K hK => ?_); simp -implicitDefEqProofs [he]) | (refine aw_drw mixd (fun K hK => ?_); simp -implicitDefEqProofs [he]) | refine hK _ ?_ | refine hK _ _ (by rfl) ?_ | (refine ar_call (cp hru ?_); simp -implicitDefEqProofs [he]) | (refine ard_call (dp hru ?_); simp -implicitDefEqProofs [he]) | (refine ar_call (cp hbe ?_); simp -implicitDefEqProofs [he]) | (refine ard_call (dp hbe ?_); simp -implicitDefEqProofs [he]) | fail)
        refine aw_ret (fin_ret ?_); simp -implicitDefEqProofs [FinP, resV, resT, he] <;> try rfl
    obtain ⟨⟨ax, al⟩, ha⟩ : ∃ a, l[k]? = some a := ⟨_, List.getElem?_eq_getElem hkl⟩
    have ha' := (List.getElem?_eq_some_iff.1 ha).2
    have hsz1 := Tr.size_at (x := x) ha
    have hc := ih _ (List.mem_of_getElem? ha) (hl _ (List.mem_of_getElem? ha)) (by omega)
    have w2 : IntKind.i64.wrap ((k : Nat) + 1 : Int) = (k : Nat) + 1 := i64i _ (by omega) (by omega)
    have hs := hTk k _ ha
    have hf := hFk k _ ha
    have hto := hat k ax al ha
    have hTkl : (Ty.take k).length = k := by rw [List.length_take]; omega
    have hFkl : (Fo.take k).length = k := by rw [List.length_take]; omega
    obtain ⟨TK, hTK⟩ : ∃ TK, Ty.take k = TK := ⟨_, rfl⟩
    obtain ⟨FK, hFK⟩ : ∃ FK, Fo.take k = FK := ⟨_, rfl⟩
    have hnx : (ofT (.mk mx ml) L (.mk ax al)).er = 0 → ∀ y ∈ l.take (k + 1), (ofT (.mk mx ml) L y).er = 0 := by
      intro he y hy
      rw [List.take_add_one, ha] at hy
      rcases List.mem_append.1 hy with hy | hy
      · exact hz y hy
      · simp at hy; subst hy; exact he
    obtain ⟨⟨⟨bx, bl⟩, ⟨cx, cl⟩, gp, ge⟩, hG⟩ : ∃ g, ofT (.mk mx ml) L (.mk ax al) = g := ⟨_, rfl⟩
    rw [hG] at hc hto hs hf hnx
    rw [hTK] at hs hTkl ⊢
    rw [hFK] at hf hFkl ⊢
    clear hG hTK hFK hTk hFk hat hend ih
    have b1 : (k + 1) * 72 ≤ 140737488355328 := by omega
    have b2 : k + 1 ≤ 140737488355328 := by omega
    by_cases he : ge = 0
    · have he' := eq_true he
      repeat' (first | refine aw_seq ?_ | refine aw_skip ?_ | refine aw_block ?_ | refine aw_exit ?_ | refine aw_cond rfl (fun _ => ?_) (fun hb => absurd hb (by decide)) | refine aw_cond rfl (fun hb => absurd hb (by decide)) (fun _ => ?_) | (refine aw_reg (fun K hK => ?_); simp -implicitDefEqProofs [hkl, ha, ha', hTkl, hFkl, b1, b2, w2, he']) | (refine aw_drw mixd (fun K hK => ?_); simp -implicitDefEqProofs [hkl, ha, ha', hTkl, hFkl, b1, b2, w2, he']) | refine hK _ ?_ | refine hK _ _ (by rfl) ?_ | (refine ar_call (cp hc ?_); simp -implicitDefEqProofs [hkl, ha, ha', hTkl, hFkl, b1, b2, w2, he']) | (refine ard_call (dp hc ?_); simp -implicitDefEqProofs [hkl, ha, ha', hTkl, hFkl, b1, b2, w2, he']) | fail)
      refine ⟨k + 1, ⟨by omega, hnx he⟩, (by dsimp only; omega), ?_⟩
      rw [hI, hs, hf]; exact cov_intro [0, 1, 2, 97, 103] (by simp -implicitDefEqProofs) (by simp -implicitDefEqProofs) (by decide) rfl (by simp)
    · rw [hto he hz]
      repeat' (first | refine aw_seq ?_ | refine aw_skip ?_ | refine aw_block ?_ | refine aw_exit ?_ | refine aw_cond rfl (fun _ => ?_) (fun hb => absurd hb (by decide)) | refine aw_cond rfl (fun hb => absurd hb (by decide)) (fun _ => ?_) | (refine aw_reg (fun K hK => ?_); simp -implicitDefEqProofs [hkl, ha, ha', he]) | (refine aw_drw mixd (fun K hK => ?_); simp -implicitDefEqProofs [hkl, ha, ha', he]) | refine hK _ ?_ | refine hK _ _ (by rfl) ?_ | (refine ar_call (cp hc ?_); simp -implicitDefEqProofs [hkl, ha, ha', he]) | (refine ard_call (dp hc ?_); simp -implicitDefEqProofs [hkl, ha, ha', he]) | fail)
      refine aw_ret (fin_ret ?_); simp -implicitDefEqProofs [FinP, resV, resT] <;> try rfl)
end Go.Proofs.Ythmdllhhmhbhbaa.am
end
section
namespace Go.Proofs.Ythmdllhhmhbhbaa.am
open Go.ChangeShapes Go.WideShapes Go.ChangeAt Go.RowKit
open vt
set_option linter.unusedVariables false
set_option linter.unusedSimpArgs false
structure GR where
  t : VT
  pl : Int
  er : Int
noncomputable def badR (x : Lab) (e : Int) : GR := ⟨z0T, x.f, e⟩
noncomputable def fromG (g : GV) : GR := ⟨g.fo, g.pl, g.er⟩
def prtN (k : Int) : Int × Int :=
  if k = 20 ∨ k = 21 ∨ k = 26 ∨ k = 27 ∨ k = 28 then (1, 0)
  else if k = 22 then (2, 0)
  else if k = 23 then (3, 2)
  else if k = 24 then (2, 1)
  else if k = 25 then (3, 1)
  else (-1, 0)
def blkB (y : VT) : Bool := decide (y.lab.k = 29)
def shpS (x : Lab) (l : List VT) : Bool := if x.k = 29 then true else decide ((l.length : Int) = (prtN x.k).1) && (l.drop ((prtN x.k).1 - (prtN x.k).2).toNat).all blkB
noncomputable def brgT (m : VT) (L : List VT) (t : VT) : List VT :=
  if t.lab.k = 20 ∧ t.kids.length = 1 then L ++ [(ofT m L (t.kids.getD 0 z0T)).ty]
  else if t.lab.k = 21 ∧ t.kids.length = 1 then L ++ [t.kids.getD 0 z0T]
  else L
noncomputable def onlT (m : VT) (L : List VT) (t : VT) (a b : Int) : GR :=
  if (ofT m L t).er = 0 ∧ isT (ofT m L t).ty a = false ∧ isT (ofT m L t).ty b = false then badR t.lab 10 else fromG (ofT m L t)
noncomputable def blkG (m : VT) (x : Lab) : List (VT × (List VT → GR)) → List VT → List VT → GR
  | [], _, acc => ⟨.mk ⟨x.k, x.n, ⟨#[]⟩, 0, 0⟩ acc, 0, 0⟩
  | p :: r, L, acc => if (p.2 L).er = 0 then blkG m x r (brgT m L p.1) (acc ++ [(p.2 L).t]) else p.2 L
noncomputable def prtG (m ret : VT) (L : List VT) (x : Lab) (i : Nat) (y : VT) (f : List VT → GR) : GR :=
  if (prtN x.k).1 - (prtN x.k).2 ≤ i then f (if x.k = 25 then L ++ [tyT 1] else L)
  else if x.k = 21 then (if cels m y = 0 then badR y.lab 11 else ⟨nmlT y, 0, 0⟩)
  else if x.k = 23 ∨ x.k = 24 then onlT m L y 2 2
  else if x.k = 25 then onlT m L y 1 1
  else if x.k = 26 then onlT m L y 1 2
  else if x.k = 28 ∧ ¬ y.lab.k = 16 then badR y.lab 12
  else if x.k = 27 ∧ (ofT m L y).er = 0 ∧ same (ofT m L y).ty (barT ret) = false then badR y.lab 10
  else fromG (ofT m L y)
noncomputable def prtsG (m ret : VT) (L : List VT) (x : Lab) : Nat → List (VT × (List VT → GR)) → List GR
  | _, [] => []
  | i, p :: r => prtG m ret L x i p.1 p.2 :: prtsG m ret L x (i + 1) r
noncomputable def endG (m : VT) (L : List VT) (x : Lab) (l : List VT) (gs : List GR) : GR :=
  if x.k = 22 ∧ ¬ ((rootT (l.getD 0 z0T)).lab.k = 7 ∨ (rootT (l.getD 0 z0T)).lab.k = 9) then badR (l.getD 0 z0T).lab 12
  else if x.k = 22 ∧ same (ofT m L (l.getD 0 z0T)).ty (ofT m L (l.getD 1 z0T)).ty = false then badR x 10
  else ⟨.mk ⟨x.k, x.n, ⟨#[]⟩, 0, 0⟩ (gs.map GR.t), 0, 0⟩
noncomputable def stmC (m ret : VT) (x : Lab) (l : List VT) (fs : List (List VT → GR)) (L : List VT) : GR :=
  if shpS x l = false then badR x 12
  else if x.k = 29 then blkG m x (l.zip fs) L []
  else match (prtsG m ret L x 0 (l.zip fs)).find? (fun g => !decide (g.er = 0)) with
    | some g => g
    | none => endG m L x l (prtsG m ret L x 0 (l.zip fs))
noncomputable def stmT (m ret : VT) (t : VT) : List VT → GR := Tr.fold (stmC m ret) t
theorem stmT_mk (m ret : VT) (x : Lab) (l : List VT) : stmT m ret (.mk x l) = stmC m ret x l (l.map (stmT m ret)) := Tr.fold_mk _ x l
theorem zip_map {α β : Type} (f : α → β) : ∀ l : List α, l.zip (l.map f) = l.map (fun y => (y, f y))
  | [] => rfl
  | y :: l => by rw [List.map_cons, List.zip_cons_cons, zip_map f l]; rfl
noncomputable def blkT (m ret : VT) (x : Lab) : List VT → List VT → List VT → GR
  | [], _, acc => ⟨.mk ⟨x.k, x.n, ⟨#[]⟩, 0, 0⟩ acc, 0, 0⟩
  | t :: r, L, acc => if (stmT m ret t L).er = 0 then blkT m ret x r (brgT m L t) (acc ++ [(stmT m ret t L).t]) else stmT m ret t L
theorem blkG_eq (m ret : VT) (x : Lab) : ∀ (l : List VT) (L acc : List VT), blkG m x (l.map (fun y => (y, stmT m ret y))) L acc = blkT m ret x l L acc
  | [], L, acc => rfl
  | t :: r, L, acc => by
    rw [List.map_cons]
    unfold blkG blkT
    rw [blkG_eq m ret x r]
noncomputable def prtT (m ret : VT) (L : List VT) (x : Lab) (i : Nat) (y : VT) : GR := prtG m ret L x i y (stmT m ret y)
noncomputable def prtsT (m ret : VT) (L : List VT) (x : Lab) : Nat → List VT → List GR
  | _, [] => []
  | i, y :: r => prtT m ret L x i y :: prtsT m ret L x (i + 1) r
theorem prtsG_eq (m ret : VT) (L : List VT) (x : Lab) : ∀ (i : Nat) (l : List VT), prtsG m ret L x i (l.map (fun y => (y, stmT m ret y))) = prtsT m ret L x i l
  | _, [] => rfl
  | i, y :: r => by
    rw [List.map_cons]
    unfold prtsG prtsT
    rw [prtsG_eq m ret L x (i + 1) r]
    rfl
theorem stmT_eq (m ret : VT) (x : Lab) (l : List VT) (L : List VT) : stmT m ret (.mk x l) L = if shpS x l = false then badR x 12
  else if x.k = 29 then blkT m ret x l L []
  else match (prtsT m ret L x 0 l).find? (fun g => !decide (g.er = 0)) with
    | some g => g
    | none => endG m L x l (prtsT m ret L x 0 l) := by
  rw [stmT_mk]
  unfold stmC
  rw [zip_map, blkG_eq, prtsG_eq]
def ptdB (l : List VT) : Bool := l.all partB
def typsT (f : VT) : List VT := ((f.kids.getD 0 z0T).kids).map (fun q => q.kids.getD 0 z0T)
noncomputable def fnT (m : VT) (x : Lab) (l : List VT) : GR :=
  if ¬ (x.n = 0 ∨ x.n = 1) ∨ ¬ l.length = 3 ∨ ¬ (l.getD 0 z0T).lab.k = 35 ∨ ptdB (l.getD 0 z0T).kids = false ∨ ¬ (l.getD 2 z0T).lab.k = 29 then badR x 12
  else match (typsT (.mk x l) ++ [l.getD 1 z0T]).find? (fun a => decide (cels m a = 0)) with
    | some a => badR a.lab 11
    | none => match (typsT (.mk x l) ++ [l.getD 1 z0T]).find? (fun a => decide (x.n = 1) && !(decide (0 < cels m a) && frT a)) with
      | some a => badR a.lab 12
      | none => if (stmT m (l.getD 1 z0T) (l.getD 2 z0T) (typsT (.mk x l))).er = 0
          then ⟨.mk ⟨x.k, x.n, ⟨#[]⟩, 0, 0⟩ [nmlT (l.getD 0 z0T), nmlT (l.getD 1 z0T), (stmT m (l.getD 1 z0T) (l.getD 2 z0T) (typsT (.mk x l))).t], 0, 0⟩
          else stmT m (l.getD 1 z0T) (l.getD 2 z0T) (typsT (.mk x l))
noncomputable def decT (m : VT) (i : Nat) (t : VT) : GR :=
  if t.lab.k = 33 then fnT m t.lab t.kids
  else if t.lab.k = 30 then
    (if shpB t = false then badR t.lab 12 else if cels m (.mk ⟨4, i, ⟨#[]⟩, 0, 0⟩ []) = 0 then badR t.lab 11 else ⟨nmlT t, 0, 0⟩)
  else if t.lab.k = 32 ∧ t.kids.length = 1 then
    (if cels m (t.kids.getD 0 z0T) = 0 then badR (t.kids.getD 0 z0T).lab 11 else ⟨nmlT t, 0, 0⟩)
  else if ¬ t.lab.k = 31 ∨ ¬ t.kids.length = 1 ∨ 0 < (t.kids.getD 0 z0T).kids.length ∨ (litT (t.kids.getD 0 z0T)).lab.k = 0 ∨ ((t.kids.getD 0 z0T).lab.k = 6 ∧ ¬ (t.kids.getD 0 z0T).lab.n = 0 ∧ ¬ (t.kids.getD 0 z0T).lab.n = 1) then badR t.lab 12
  else ⟨nmlT t, 0, 0⟩
noncomputable def decsT (m : VT) : Nat → List VT → List GR
  | _, [] => []
  | i, t :: r => decT m i t :: decsT m (i + 1) r
noncomputable def modR (m : VT) : GR :=
  if ¬ m.lab.k = 36 then badR m.lab 12
  else match (decsT m 0 m.kids).find? (fun g => !decide (g.er = 0)) with
    | some g => ⟨z0T, g.pl, g.er⟩
    | none => ⟨.mk ⟨m.lab.k, m.lab.n, ⟨#[]⟩, 0, 0⟩ ((decsT m 0 m.kids).map GR.t), 0, 0⟩
end Go.Proofs.Ythmdllhhmhbhbaa.am
end
section
namespace Go.Proofs.Ythmdllhhmhbhbaa.am
open Go.ChangeShapes Go.WideShapes Go.ChangeAt Go.RowKit
open vt
set_option linter.unusedVariables false
set_option linter.unusedSimpArgs false
def nmOk (P : Int → Prop) (x : Lab) : Prop := (nmK x.k = true → P x.n) ∧ (x.k = 13 → 0 ≤ x.n → P (x.n / 64))
abbrev Nm (P : Int → Prop) (t : VT) : Prop := Tr.all (nmOk P) t
theorem Nm.kid {P : Int → Prop} {t y : VT} (h : Nm P t) (hy : y ∈ t.kids) : Nm P y := by
  obtain ⟨x, l⟩ := t
  exact ((Tr.all_mk _ _ _).1 h).2 y hy
theorem Nm.lab {P : Int → Prop} {t : VT} (h : Nm P t) : nmOk P t.lab := by
  obtain ⟨x, l⟩ := t
  exact ((Tr.all_mk _ _ _).1 h).1
theorem nm_z0 (P : Int → Prop) : Nm P z0T := (Tr.all_mk _ _ _).2 ⟨⟨fun h => by simp [nmK] at h, fun h => by simp at h⟩, fun y hy => by simp at hy⟩
theorem nm_ty (P : Int → Prop) {k : Int} (hk : k = 1 ∨ k = 2) : Nm P (tyT k) := (Tr.all_mk _ _ _).2 ⟨⟨fun h => by rcases hk with rfl | rfl <;> simp [nmK] at h, fun h => by rcases hk with rfl | rfl <;> simp at h⟩, fun y hy => by simp at hy⟩
theorem Nm.at0 {P : Int → Prop} {t : VT} (h : Nm P t) (i : Nat) : Nm P (t.kids.getD i z0T) := by
  by_cases hi : i < t.kids.length
  · exact h.kid (by simp [List.getD, hi])
  · rw [show t.kids.getD i z0T = z0T by simp [List.getD, hi]]; exact nm_z0 P
section
variable (to : List Int)
theorem rn_k (t : VT) : (renum to t).lab.k = t.lab.k := by obtain ⟨x, l⟩ := t; rw [renum_mk]; rfl
theorem rn_s (t : VT) : (renum to t).lab.s = t.lab.s := by obtain ⟨x, l⟩ := t; rw [renum_mk]; rfl
theorem rn_f (t : VT) : (renum to t).lab.f = t.lab.f := by obtain ⟨x, l⟩ := t; rw [renum_mk]; rfl
theorem rn_n (t : VT) : (renum to t).lab.n = nwN to t.lab := by obtain ⟨x, l⟩ := t; rw [renum_mk]; rfl
theorem rn_kids (t : VT) : (renum to t).kids = t.kids.map (renum to) := by obtain ⟨x, l⟩ := t; rw [renum_mk]; rfl
theorem rn_z0 : renum to z0T = z0T := by rw [renum_mk]; simp [nwN, nmK]
theorem rn_ty {k : Int} (hk : k = 1 ∨ k = 2) : renum to (tyT k) = tyT k := by
  unfold tyT
  rw [renum_mk]
  rcases hk with rfl | rfl <;> simp [nwN, nmK]
theorem rn_getD (l : List VT) (i : Nat) : (l.map (renum to)).getD i z0T = renum to (l.getD i z0T) := by
  by_cases h : i < l.length
  · simp [List.getD, h]
  · simp [List.getD, h, rn_z0]
theorem rn_get (l : List VT) (i : Nat) : (l.map (renum to))[i]? = (l[i]?).map (renum to) := List.getElem?_map ..
theorem rn_isT (t : VT) (k : Int) : isT (renum to t) k = isT t k := by
  unfold isT; rw [rn_k, rn_kids, List.length_map]
theorem rn_lit (t : VT) : litT (renum to t) = litT t ∧ renum to (litT t) = litT t := by
  unfold litT
  rw [rn_k]
  refine ⟨rfl, ?_⟩
  split
  · exact rn_ty to (.inl rfl)
  · split
    · exact rn_ty to (.inr rfl)
    · exact rn_z0 to
theorem rn_partB (q : VT) : partB (renum to q) = partB q := by unfold partB; rw [rn_k, rn_kids, List.length_map]
theorem rn_shpB (d : VT) : shpB (renum to d) = shpB d := by
  unfold shpB
  rw [rn_k, rn_kids, List.all_map, List.isEmpty_map]
  congr 1
  exact List.all_congr rfl (fun q => rn_partB to q)
theorem rn_bar (t : VT) : barT (renum to t) = renum to (barT t) := by
  induction t using Tr.ind with
  | h x l ih =>
  rw [renum_mk, barT_mk, barT_mk, renum_mk, List.map_map, List.map_map]
  have e : nwN to ⟨x.k, x.n, x.s, 0, 0⟩ = nwN to x := rfl
  rw [e]
  congr 1
  exact List.map_congr_left (fun y hy => ih y hy)
theorem rn_nml (t : VT) : nmlT (renum to t) = renum to (nmlT t) := by
  induction t using Tr.ind with
  | h x l ih =>
  rw [renum_mk, nmlT_mk, nmlT_mk, renum_mk, List.map_map, List.map_map]
  have e : nwN to ⟨x.k, x.n, ⟨#[]⟩, 0, 0⟩ = nwN to x := rfl
  rw [e]
  congr 1
  exact List.map_congr_left (fun y hy => ih y hy)
theorem rn_fr (t : VT) : frT (renum to t) = frT t := by
  induction t using Tr.ind with
  | h x l ih =>
  rw [renum_mk, frT_mk, frT_mk, List.all_map]
  congr 1
  rw [Bool.eq_iff_iff, List.all_eq_true, List.all_eq_true]
  exact ⟨fun h y hy => by rw [← ih y hy]; exact h y hy, fun h y hy => by show frT (renum to y) = true; rw [ih y hy]; exact h y hy⟩
theorem rn_root (t : VT) : (rootT (renum to t)).lab.k = (rootT t).lab.k := by
  induction t using Tr.ind with
  | h x l ih =>
  rw [renum_mk, rootT_mk, rootT_mk, List.length_map]
  dsimp only
  split
  · rename_i h
    cases l with
    | nil => simp at h
    | cons a r =>
      simp only [List.map_cons, List.getD_cons_zero]
      exact ih a (by simp)
  · rfl
theorem rn_plac (a b : VT) : plac a b = true → plac (renum to a) (renum to b) = true := by
  induction a using Tr.ind generalizing b with
  | h x l ih =>
  obtain ⟨y, k⟩ := b
  intro h
  unfold plac at h ⊢
  rw [eqv_mk, Bool.and_eq_true, Bool.and_eq_true] at h
  obtain ⟨⟨h1, h2⟩, h3⟩ := h
  rw [renum_mk, renum_mk, eqv_mk, Bool.and_eq_true, Bool.and_eq_true]
  have hl : l.length = k.length := of_decide_eq_true h2
  refine ⟨⟨?_, by simpa using hl⟩, ?_⟩
  · unfold pP at h1 ⊢
    simp only [Bool.and_eq_true, decide_eq_true_eq] at h1 ⊢
    obtain ⟨⟨⟨⟨e1, e2⟩, e3⟩, e4⟩, e5⟩ := h1
    have : nwN to x = nwN to y := by unfold nwN; rw [e1, e2]
    exact ⟨⟨⟨⟨e1, this⟩, e3⟩, e4⟩, e5⟩
  · unfold zipA at h3 ⊢
    rw [List.all_eq_true] at h3 ⊢
    intro q hq
    have hq := List.mem_of_mem_take hq
    obtain ⟨i, hi⟩ := List.mem_iff_getElem?.1 hq
    obtain ⟨g1, g2⟩ := List.getElem?_zip_eq_some.1 hi
    rw [List.getElem?_map] at g1 g2
    obtain ⟨u, hu, e1⟩ := Option.map_eq_some_iff.1 g1
    obtain ⟨v, hv, e2⟩ := Option.map_eq_some_iff.1 g2
    rw [← e1, ← e2]
    refine ih u (List.mem_of_getElem? hu) v (h3 (u, v) ?_)
    refine List.mem_of_getElem? (i := i) ?_
    rw [List.getElem?_take_of_lt (List.getElem?_eq_some_iff.1 hu).1]
    exact List.getElem?_zip_eq_some.2 ⟨hu, hv⟩
end
section
variable {ml : List VT} {f : Nat} {t : VT} {ins : List Int}
theorem wth_one (c1 : (t.lab.k = 1 ∨ t.lab.k = 2) ∧ t.kids.length = 0) : wth ml (f + 1) t ins = 1 := by rw [wth, if_pos c1]
variable (c1 : ¬ ((t.lab.k = 1 ∨ t.lab.k = 2) ∧ t.kids.length = 0))
include c1
theorem wth_arr (c3 : t.lab.k = 3 ∧ t.kids.length = 1 ∧ 1 ≤ t.lab.n ∧ t.lab.n ≤ 16) : wth ml (f + 1) t ins = if 64 < wth ml f (t.kids.getD 0 z0T) ins * t.lab.n then 0 else wth ml f (t.kids.getD 0 z0T) ins * t.lab.n := by rw [wth, if_neg c1, if_pos c3]
variable (c3 : ¬ (t.lab.k = 3 ∧ t.kids.length = 1 ∧ 1 ≤ t.lab.n ∧ t.lab.n ≤ 16))
include c3
theorem wth_bad (b : ¬ t.lab.k = 4 ∨ ¬ t.kids.length = 0 ∨ t.lab.n < 0 ∨ (ml.length : Int) ≤ t.lab.n) : wth ml (f + 1) t ins = 0 := by rw [wth, if_neg c1, if_neg c3, if_pos b]
variable (b : ¬ (¬ t.lab.k = 4 ∨ ¬ t.kids.length = 0 ∨ t.lab.n < 0 ∨ (ml.length : Int) ≤ t.lab.n))
include b
theorem wth_mem (hm : t.lab.n ∈ ins) : wth ml (f + 1) t ins = 0 := by rw [wth, if_neg c1, if_neg c3, if_neg b, if_pos hm]
theorem wth_rec (hm : ¬ t.lab.n ∈ ins) : wth ml (f + 1) t ins = if shpB (ml.getD t.lab.n.toNat z0T) = true then sumG ((ml.getD t.lab.n.toNat z0T).kids.map fun q => wth ml f (q.kids.getD 0 z0T) (ins ++ [t.lab.n])) 0 else 0 := by rw [wth, if_neg c1, if_neg c3, if_neg b, if_neg hm]
end
structure Mv (m m' : VT) (to : List Int) (P : Int → Prop) : Prop where
  at' : ∀ (n : Nat) d, P n → m.kids[n]? = some d → Nm P d ∧ ∃ j : Nat, plc to n = j ∧ m'.kids[j]? = some (renum to d)
  out : ∀ n : Int, P n → ¬ (0 ≤ n ∧ n < m.kids.length) → ¬ (0 ≤ plc to n ∧ plc to n < m'.kids.length)
  inj : ∀ a b : Int, P a → P b → plc to a = plc to b → a = b
  pos : ∀ n : Int, 0 ≤ n → 0 ≤ plc to n
theorem plc_neg {to : List Int} {n : Int} (h : n < 0) : plc to n = n := by unfold plc; exact if_pos h
section
variable {m m' : VT} {to : List Int} {P : Int → Prop} (M : Mv m m' to P)
include M
theorem Mv.inj13 {a b : Int} (ha : 0 ≤ a → P (a / 64)) (hb : 0 ≤ b → P (b / 64)) (h : (if 0 ≤ a then plc to (a / 64) * 64 + a % 64 else a) = (if 0 ≤ b then plc to (b / 64) * 64 + b % 64 else b)) : a = b := by
  by_cases ca : 0 ≤ a
  · have pa := M.pos (a / 64) (by omega)
    rw [if_pos ca] at h
    by_cases cb : 0 ≤ b
    · have pb := M.pos (b / 64) (by omega)
      rw [if_pos cb] at h
      have := M.inj _ _ (ha ca) (hb cb) (by omega)
      omega
    · rw [if_neg cb] at h; omega
  · rw [if_neg ca] at h
    by_cases cb : 0 ≤ b
    · have pb := M.pos (b / 64) (by omega)
      rw [if_pos cb] at h; omega
    · rw [if_neg cb] at h; exact h
omit M in
theorem nwN_13 {x : Lab} (h : x.k = 13) : nwN to x = if 0 ≤ x.n then plc to (x.n / 64) * 64 + x.n % 64 else x.n := by
  unfold nwN
  rw [if_neg (by simp [nmK, h])]
  by_cases h0 : 0 ≤ x.n
  · rw [if_pos ⟨h, h0⟩, if_pos h0]
  · rw [if_neg (fun g => h0 g.2), if_neg h0]
omit M in
theorem nwN_nm {x : Lab} (h : nmK x.k = true) : nwN to x = plc to x.n := by unfold nwN; rw [if_pos h]
omit M in
theorem nwN_no {x : Lab} (h : nmK x.k = false) (h13 : ¬ x.k = 13) : nwN to x = x.n := by unfold nwN; rw [if_neg (by rw [h]; simp), if_neg (fun g => h13 g.1)]
theorem Mv.nwN_inj {x y : Lab} (hx : nmOk P x) (hy : nmOk P y) (hk : x.k = y.k) (h : nwN to x = nwN to y) : x.n = y.n := by
  by_cases c : nmK x.k = true
  · have c' : nmK y.k = true := by rw [← hk]; exact c
    rw [nwN_nm c, nwN_nm c'] at h
    exact M.inj _ _ (hx.1 c) (hy.1 c') h
  have c : nmK x.k = false := by simpa using c
  have c' : nmK y.k = false := by rw [← hk]; exact c
  by_cases h13 : x.k = 13
  · have h13' : y.k = 13 := by rw [← hk]; exact h13
    rw [nwN_13 h13, nwN_13 h13'] at h
    exact M.inj13 (hx.2 h13) (hy.2 h13') h
  · rw [nwN_no c h13, nwN_no c' (by rw [← hk]; exact h13)] at h
    exact h
theorem Mv.same (a : VT) : ∀ b : VT, Nm P a → Nm P b → vt.same (renum to a) (renum to b) = vt.same a b := by
  induction a using Tr.ind with
  | h x l ih =>
  intro b ha hb
  obtain ⟨y, k⟩ := b
  obtain ⟨hx, hl⟩ := (Tr.all_mk _ _ _).1 ha
  obtain ⟨hy, hk⟩ := (Tr.all_mk _ _ _).1 hb
  unfold vt.same
  rw [renum_mk, renum_mk, eqv_mk, eqv_mk, List.length_map, List.length_map]
  have e1 : pS { x with n := nwN to x } { y with n := nwN to y } = pS x y := by
    unfold pS
    by_cases ck : x.k = y.k
    · have : decide (nwN to x = nwN to y) = decide (x.n = y.n) := by
        rw [Bool.eq_iff_iff, decide_eq_true_eq, decide_eq_true_eq]
        refine ⟨fun h => M.nwN_inj hx hy ck h, fun h => ?_⟩
        unfold nwN; rw [ck, h]
      dsimp only
      rw [this]
    · dsimp only
      rw [decide_eq_false ck]
      simp
  rw [e1]
  by_cases hlen : l.length = k.length
  · congr 1
    have : ∀ n, n ≤ l.length → zipA (eqv pS) (l.map (renum to)) (k.map (renum to)) n = zipA (eqv pS) l k n := by
      intro n
      induction n with
      | zero => intro _; rw [zipA_zero, zipA_zero]
      | succ n ihn =>
        intro hn
        have g1 : l[n]? = some (l[n]'(by omega)) := List.getElem?_eq_getElem _
        have g2 : k[n]? = some (k[n]'(by omega)) := List.getElem?_eq_getElem _
        rw [zipA_succ (by rw [List.getElem?_map, g1]; rfl) (by rw [List.getElem?_map, g2]; rfl), zipA_succ g1 g2, ihn (by omega)]
        congr 1
        exact ih _ (List.mem_of_getElem? g1) _ (hl _ (List.mem_of_getElem? g1)) (hk _ (List.mem_of_getElem? g2))
    exact this _ (Nat.le_refl _)
  · rw [decide_eq_false hlen]; simp
theorem Mv.get {n : Int} (h0 : 0 ≤ n) (hP : P n) : 0 ≤ plc to n ∧ m'.kids[(plc to n).toNat]? = (m.kids[n.toNat]?).map (renum to) := by
  obtain ⟨k, rfl⟩ : ∃ k : Nat, n = k := ⟨n.toNat, by omega⟩
  have hp := M.pos (k : Nat) h0
  refine ⟨hp, ?_⟩
  rw [Int.toNat_natCast]
  cases hd : m.kids[k]? with
  | some d =>
    obtain ⟨_, j, hj, hd'⟩ := M.at' k d hP hd
    rw [hj, Int.toNat_natCast, hd']; rfl
  | none =>
    have hk : m.kids.length ≤ k := by simpa using hd
    have := M.out (k : Nat) hP (fun h => by omega)
    rw [List.getElem?_eq_none (by omega)]; rfl
theorem Mv.nm {n : Int} (h0 : 0 ≤ n) (hP : P n) {d : VT} (hd : m.kids[n.toNat]? = some d) : Nm P d := by
  obtain ⟨k, rfl⟩ : ∃ k : Nat, n = k := ⟨n.toNat, by omega⟩
  rw [Int.toNat_natCast] at hd
  exact (M.at' k d hP hd).1
theorem Mv.getD {n : Int} (h0 : 0 ≤ n) (hP : P n) : m'.kids.getD (plc to n).toNat z0T = renum to (m.kids.getD n.toNat z0T) := by
  have h := (M.get h0 hP).2
  rw [List.getD_eq_getElem?_getD, List.getD_eq_getElem?_getD, h]
  cases m.kids[n.toNat]? with
  | none => exact (rn_z0 to).symm
  | some d => rfl
theorem Mv.nmD {n : Int} (h0 : 0 ≤ n) (hP : P n) : Nm P (m.kids.getD n.toNat z0T) := by
  rw [List.getD_eq_getElem?_getD]
  cases hd : m.kids[n.toNat]? with
  | none => exact nm_z0 P
  | some d => exact M.nm h0 hP hd
theorem Mv.wth : ∀ (f : Nat) (t : VT) (ins : List Int), Nm P t → (∀ z ∈ ins, P z) → wth m'.kids f (renum to t) (ins.map (plc to)) = wth m.kids f t ins
  | 0, t, ins, _, _ => rfl
  | f + 1, t, ins, ht, hi => by
    have ek := rn_k to t
    have el : (renum to t).kids.length = t.kids.length := by rw [rn_kids, List.length_map]
    have en := rn_n to t
    have e0 : (renum to t).kids.getD 0 z0T = renum to (t.kids.getD 0 z0T) := by rw [rn_kids, rn_getD]
    by_cases c1 : (t.lab.k = 1 ∨ t.lab.k = 2) ∧ t.kids.length = 0
    · rw [wth_one c1, wth_one (by rw [ek, el]; exact c1)]
    have c1' : ¬ (((renum to t).lab.k = 1 ∨ (renum to t).lab.k = 2) ∧ (renum to t).kids.length = 0) := by rw [ek, el]; exact c1
    by_cases k3 : t.lab.k = 3
    · have e : nwN to t.lab = t.lab.n := nwN_no (by simp [nmK, k3]) (by omega)
      by_cases c3 : t.lab.k = 3 ∧ t.kids.length = 1 ∧ 1 ≤ t.lab.n ∧ t.lab.n ≤ 16
      · rw [wth_arr c1 c3, wth_arr c1' (by rw [ek, el, en, e]; exact c3), e0, en, e, Mv.wth f _ ins (ht.at0 0) hi]
      · rw [wth_bad c1 c3 (.inl (by omega)), wth_bad c1' (by rw [ek, el, en, e]; exact c3) (.inl (by omega))]
    have c3 : ¬ (t.lab.k = 3 ∧ t.kids.length = 1 ∧ 1 ≤ t.lab.n ∧ t.lab.n ≤ 16) := fun h => k3 h.1
    have c3' : ¬ ((renum to t).lab.k = 3 ∧ (renum to t).kids.length = 1 ∧ 1 ≤ (renum to t).lab.n ∧ (renum to t).lab.n ≤ 16) := fun h => k3 (ek ▸ h.1)
    by_cases k4 : t.lab.k = 4; rotate_left
    · rw [wth_bad c1 c3 (.inl k4), wth_bad c1' c3' (.inl (by rw [ek]; exact k4))]
    have hP : P t.lab.n := ht.lab.1 (by simp [nmK, k4])
    have e : nwN to t.lab = plc to t.lab.n := nwN_nm (by simp [nmK, k4])
    by_cases k0 : t.kids.length = 0; rotate_left
    · rw [wth_bad c1 c3 (.inr (.inl k0)), wth_bad c1' c3' (.inr (.inl (by rw [el]; exact k0)))]
    by_cases hr : 0 ≤ t.lab.n ∧ t.lab.n < m.kids.length; rotate_left
    · have := M.out _ hP hr
      rw [wth_bad c1 c3 (.inr (.inr (by omega))), wth_bad c1' c3' (.inr (.inr (by rw [en, e]; omega)))]
    obtain ⟨p0, pg⟩ := M.get hr.1 hP
    obtain ⟨d, hd⟩ : ∃ d, m.kids[t.lab.n.toNat]? = some d := ⟨_, List.getElem?_eq_getElem (by omega)⟩
    rw [hd] at pg
    have hlt := (List.getElem?_eq_some_iff.1 pg).1
    have b : ¬ (¬ t.lab.k = 4 ∨ ¬ t.kids.length = 0 ∨ t.lab.n < 0 ∨ (m.kids.length : Int) ≤ t.lab.n) := by omega
    have b' : ¬ (¬ (renum to t).lab.k = 4 ∨ ¬ (renum to t).kids.length = 0 ∨ (renum to t).lab.n < 0 ∨ (m'.kids.length : Int) ≤ (renum to t).lab.n) := by rw [ek, el, en, e]; omega
    have hins : (plc to t.lab.n ∈ ins.map (plc to)) ↔ t.lab.n ∈ ins := by
      rw [List.mem_map]
      exact ⟨fun ⟨z, hz, he⟩ => by rw [← M.inj z _ (hi z hz) hP he]; exact hz, fun h => ⟨_, h, rfl⟩⟩
    by_cases hmem : t.lab.n ∈ ins
    · rw [wth_mem c1 c3 b hmem, wth_mem c1' c3' b' (by rw [en, e]; exact hins.2 hmem)]
    rw [wth_rec c1 c3 b hmem, wth_rec c1' c3' b' (by rw [en, e]; exact fun h => hmem (hins.1 h)), en, e, M.getD hr.1 hP, rn_shpB]
    by_cases hs : shpB (m.kids.getD t.lab.n.toNat z0T) = true
    · rw [if_pos hs, if_pos hs, rn_kids, List.map_map]
      congr 1
      refine List.map_congr_left (fun q hq => ?_)
      show vt.wth m'.kids f ((renum to q).kids.getD 0 z0T) (ins.map (plc to) ++ [plc to t.lab.n]) = _
      have hn : Nm P q := (M.nmD hr.1 hP).kid hq
      rw [rn_kids, rn_getD, show ins.map (plc to) ++ [plc to t.lab.n] = (ins ++ [t.lab.n]).map (plc to) by simp]
      exact Mv.wth f _ _ (hn.at0 0) (fun z hz => by
        rcases List.mem_append.1 hz with h | h
        · exact hi z h
        · simp at h; subst h; exact hP)
    · rw [if_neg hs, if_neg hs]
end
theorem wth_fuel (ml : List VT) (S : Nat) (hS : ∀ d ∈ ml, d.size ≤ S) : ∀ (f g : Nat) (t : VT) (ins : List Int), InsOk ml ins → (ml.length - ins.length) * S + t.size ≤ f → (ml.length - ins.length) * S + t.size ≤ g → wth ml f t ins = wth ml g t ins
  | 0, g, t, ins, _, h, _ => by have := Tr.size_pos t; omega
  | f + 1, 0, t, ins, _, _, h => by have := Tr.size_pos t; omega
  | f + 1, g + 1, t, ins, hi, hf, hg => by
    unfold wth
    split
    · rfl
    · split
      · rename_i h3
        have hk : (t.kids.getD 0 z0T).size < t.size := by
          obtain ⟨x, l⟩ := t
          obtain ⟨a, rfl⟩ := one_of h3.2.1
          exact Tr.size_at (x := x) (l := [a]) (i := 0) rfl
        rw [wth_fuel ml S hS f g _ ins hi (by omega) (by omega)]
      · split
        · rfl
        · rename_i hr
          split
          · rfl
          · rename_i hmem
            have hlt : t.lab.n.toNat < ml.length := by omega
            split
            · congr 1
              refine List.map_congr_left (fun q hq => ?_)
              have hdm : ml.getD t.lab.n.toNat z0T ∈ ml := by simp [List.getD, hlt]
              have hq1 := kid_lt (x := (ml.getD t.lab.n.toNat z0T).lab) (l := (ml.getD t.lab.n.toNat z0T).kids) hq
              have e : Tr.mk (ml.getD t.lab.n.toNat z0T).lab (ml.getD t.lab.n.toNat z0T).kids = ml.getD t.lab.n.toNat z0T := by cases ml.getD t.lab.n.toNat z0T; rfl
              rw [e] at hq1
              have hq2 := hS _ hdm
              have hq3 := getD_size (m := q) 0
              obtain ⟨hok, hle⟩ := hi.add (z := t.lab.n) (by omega) (by omega) hmem
              have hl : (ins ++ [t.lab.n]).length = ins.length + 1 := by simp
              exact wth_fuel ml S hS f g _ _ hok (by rw [hl]; exact fuel_less hf (by omega) (by omega) (Tr.size_pos _)) (by rw [hl]; exact fuel_less hg (by omega) (by omega) (Tr.size_pos _))
            · rfl
theorem Mv.cels {m m' : VT} {to : List Int} {P : Int → Prop} (M : Mv m m' to P) {t : VT} (ht : Nm P t) : cels m' (renum to t) = cels m t := by
  unfold vt.cels
  have h := M.wth (m.kids.length * m.size + t.size + (m'.kids.length * m'.size + (renum to t).size)) t [] ht (fun z hz => by simp at hz)
  rw [List.map_nil] at h
  rw [wth_fuel m'.kids m'.size (fun d hd => kid_size hd) _ (m.kids.length * m.size + t.size + (m'.kids.length * m'.size + (renum to t).size)) (renum to t) [] (InsOk.nil _) (by simp) (by simp), h,
    wth_fuel m.kids m.size (fun d hd => kid_size hd) _ (m.kids.length * m.size + t.size) t [] (InsOk.nil _) (by simp) (by simp)]
end Go.Proofs.Ythmdllhhmhbhbaa.am
end
section
namespace Go.Proofs.Ythmdllhhmhbhbaa.am
open Go.ChangeShapes Go.WideShapes Go.ChangeAt Go.RowKit
open vt
set_option linter.unusedVariables false
set_option linter.unusedSimpArgs false
theorem nmOk_kn {P : Int → Prop} {x y : Lab} (h1 : x.k = y.k) (h2 : x.n = y.n) (h : nmOk P x) : nmOk P y := by
  unfold nmOk at h ⊢
  rw [← h1, ← h2]; exact h
theorem bar_nm {P : Int → Prop} {t : VT} : Nm P t → Nm P (barT t) := by
  induction t using Tr.ind with
  | h x l ih =>
  intro h
  obtain ⟨h1, h2⟩ := (Tr.all_mk _ _ _).1 h
  rw [barT_mk]
  refine (Tr.all_mk _ _ _).2 ⟨nmOk_kn (x := x) rfl rfl h1, fun y hy => ?_⟩
  obtain ⟨z, hz, rfl⟩ := List.mem_map.1 hy
  exact ih z hz (h2 z hz)
theorem lit_nm (P : Int → Prop) (t : VT) : Nm P (litT t) := by
  rcases litT_cases t with e | e | e <;> rw [e]
  · exact nm_ty P (.inl rfl)
  · exact nm_ty P (.inr rfl)
  · exact nm_z0 P
theorem getD_nm {P : Int → Prop} {L : List VT} (h : ∀ a ∈ L, Nm P a) (i : Nat) : Nm P (L.getD i z0T) := by
  by_cases hi : i < L.length
  · exact h _ (by simp [List.getD, hi])
  · rw [show L.getD i z0T = z0T by simp [List.getD, hi]]; exact nm_z0 P
section
variable (to : List Int)
theorem rn_hasD (d : VT) (k : Int) : hasD (renum to d) k = hasD d k := by
  unfold hasD
  rw [rn_kids, List.length_map, rn_getD, (rn_lit to _).1, rn_shpB]
theorem rn_sha (x : Lab) (n : Nat) : shaE { x with n := nwN to x } n = shaE x n := by
  by_cases h : nmK x.k = true
  · simp only [nmK, Bool.or_eq_true, decide_eq_true_eq] at h
    rcases h with (((h | h) | h) | h) | h <;> simp [shaE, h]
  · by_cases h13 : x.k = 13
    · simp [shaE, h13]
    · rw [nwN_no (by simpa using h) h13]
theorem rn_two (op : Int) (a b : VT) : twoT op (renum to a) (renum to b) = twoT op a b ∧ renum to (twoT op a b) = twoT op a b := by
  refine ⟨?_, ?_⟩
  · unfold twoT; simp only [rn_isT]
  · rcases twoT_cases op a b with e | e | e <;> rw [e]
    · exact rn_ty to (.inl rfl)
    · exact rn_ty to (.inr rfl)
    · exact rn_z0 to
end
section
variable {m m' : VT} {to : List Int} {P : Int → Prop} (M : Mv m m' to P)
include M
theorem Mv.hasE {n : Int} (hP : P n) (k : Int) : hasB m' (plc to n) k = hasB m n k := by
  unfold vt.hasB
  by_cases h0 : n < 0
  · rw [plc_neg h0, if_pos h0, if_pos h0]
  · obtain ⟨p0, pg⟩ := M.get (by omega) hP
    rw [if_neg (by omega), if_neg h0, pg]
    cases m.kids[n.toNat]? with
    | none => rfl
    | some d =>
      show (decide ((renum to d).lab.k = k) && hasD (renum to d) k) = _
      rw [rn_k, rn_hasD]
theorem Mv.namE {x : Lab} (hx : nmOk P x) (n : Nat) : namB m' n { x with n := nwN to x } = namB m n x := by
  unfold vt.namB
  dsimp only
  by_cases h7 : x.k = 7
  · rw [if_pos h7, if_pos h7, nwN_no (by simp [nmK, h7]) (by omega)]
  rw [if_neg h7, if_neg h7]
  by_cases h8 : x.k = 8
  · rw [if_pos h8, if_pos h8, nwN_nm (by simp [nmK, h8]), M.hasE (hx.1 (by simp [nmK, h8]))]
  rw [if_neg h8, if_neg h8]
  by_cases h9 : x.k = 9
  · rw [if_pos h9, if_pos h9, nwN_nm (by simp [nmK, h9]), M.hasE (hx.1 (by simp [nmK, h9]))]
  rw [if_neg h9, if_neg h9]
  by_cases h15 : x.k = 15
  · rw [if_pos h15, if_pos h15, nwN_nm (by simp [nmK, h15]), M.hasE (hx.1 (by simp [nmK, h15]))]
  rw [if_neg h15, if_neg h15]
  by_cases h16 : x.k = 16
  · rw [if_pos h16, if_pos h16, nwN_nm (by simp [nmK, h16]), M.hasE (hx.1 (by simp [nmK, h16]))]
  rw [if_neg h16, if_neg h16]
theorem Mv.fldE {n : Int} (h0 : 0 ≤ n) (hP : P (n / 64)) : fldA m' (plc to (n / 64) * 64 + n % 64) = (fldA m n).map (renum to) := by
  obtain ⟨p0, pg⟩ := M.get (show 0 ≤ n / 64 by omega) hP
  unfold vt.fldA
  rw [if_neg (by omega), if_neg (by omega), show (plc to (n / 64) * 64 + n % 64).toNat / 64 = (plc to (n / 64)).toNat by omega, show (plc to (n / 64) * 64 + n % 64).toNat % 64 = n.toNat % 64 by omega, pg, show (n / 64).toNat = n.toNat / 64 by omega]
  cases m.kids[n.toNat / 64]? with
  | none => rfl
  | some d =>
    show (if (renum to d).lab.k = 30 then _ else _) = _
    dsimp only [Option.map_some]
    rw [rn_k]
    by_cases h30 : d.lab.k = 30
    · rw [if_pos h30, if_pos h30, rn_kids, rn_get]
      cases d.kids[n.toNat % 64]? with
      | none => rfl
      | some q =>
        show (if partB (renum to q) = true then _ else _) = _
        dsimp only [Option.map_some]
        rw [rn_partB]
        by_cases hq : partB q = true
        · rw [if_pos hq, if_pos hq, rn_kids, rn_get]
        · rw [if_neg hq, if_neg hq]; rfl
    · rw [if_neg h30, if_neg h30]; rfl
theorem Mv.fld_nm {n : Int} (h0 : 0 ≤ n) (hP : P (n / 64)) : Nm P ((fldA m n).getD z0T) := by
  cases h : vt.fldA m n with
  | none => exact nm_z0 P
  | some q =>
    unfold vt.fldA at h
    rw [if_neg (by omega)] at h
    split at h
    · cases h
    · rename_i d hd
      have hdn := M.nm (show 0 ≤ n / 64 by omega) hP (by rw [show (n / 64).toNat = n.toNat / 64 by omega]; exact hd)
      split at h
      · split at h
        · cases h
        · rename_i p hp
          split at h
          · exact (hdn.kid (List.mem_of_getElem? hp)).kid (List.mem_of_getElem? h)
          · cases h
      · cases h
theorem Mv.fieldE {x : Lab} (h13 : x.k = 13) (hx : nmOk P x) {n : Int} (hP : P n) : fieldN m' { x with n := nwN to x } (plc to n) = (if 0 ≤ fieldN m x n then plc to (fieldN m x n / 64) * 64 + fieldN m x n % 64 else fieldN m x n) ∧ (0 ≤ fieldN m x n → fieldN m x n / 64 = n) := by
  unfold am.fieldN
  rw [M.hasE hP]
  by_cases hb : vt.hasB m n 30 = true; rotate_left
  · rw [if_neg hb, if_neg hb, if_neg (by omega)]
    exact ⟨rfl, fun h => by omega⟩
  have h0 : 0 ≤ n := by
    unfold vt.hasB at hb
    split at hb
    · cases hb
    · omega
  have p0 := M.pos n h0
  rw [if_pos hb, if_pos hb]
  dsimp only
  by_cases hs : x.s = ⟨#[]⟩
  · rw [if_pos hs, if_pos hs, nwN_13 h13]
    by_cases hn : 0 ≤ x.n
    · have hq := hx.2 h13 hn
      have q0 := M.pos (x.n / 64) (by omega)
      rw [if_pos hn, M.fldE hn hq, Option.isSome_map]
      by_cases hc : (vt.fldA m x.n).isSome = true ∧ x.n / 64 = n
      · rw [if_pos hc, if_pos ⟨hc.1, by rw [← hc.2]; omega⟩, if_pos hn]
        exact ⟨rfl, fun _ => hc.2⟩
      · rw [if_neg hc, if_neg (fun h => hc ⟨h.1, M.inj _ _ hq hP (by have := h.2; omega)⟩), if_neg (by omega)]
        exact ⟨rfl, fun h => by omega⟩
    · have e : (vt.fldA m x.n) = none := by unfold vt.fldA; rw [if_pos (by omega)]
      have e' : (vt.fldA m' x.n) = none := by unfold vt.fldA; rw [if_pos (by omega)]
      rw [if_neg hn, e, e', if_neg (by simp), if_neg (by simp), if_neg (by omega)]
      exact ⟨rfl, fun h => by omega⟩
  · rw [if_neg hs, if_neg hs, M.getD h0 hP, rn_kids, ← List.map_take, List.findIdx?_map, show ((fun q : VT => decide (q.lab.s = x.s)) ∘ renum to) = (fun q => decide (q.lab.s = x.s)) from funext fun q => by show decide ((renum to q).lab.s = x.s) = _; rw [rn_s]]
    cases hf : ((m.kids.getD n.toNat z0T).kids.take 64).findIdx? (fun q => decide (q.lab.s = x.s)) with
    | none => dsimp only; rw [if_neg (by omega)]; exact ⟨rfl, fun h => by omega⟩
    | some i =>
      have h1 := (List.findIdx?_eq_some_iff_getElem.1 hf).1
      rw [List.length_take] at h1
      dsimp only
      rw [if_pos (by omega), show (n * 64 + (i : Int)) / 64 = n by omega]
      exact ⟨by omega, fun _ => rfl⟩
theorem Mv.fit : ∀ (A Q : List VT), (∀ a ∈ A, Nm P a) → (∀ q ∈ Q, Nm P q) → fitB (A.map (renum to)) (Q.map (renum to)) = fitB A Q
  | [], [], _, _ => rfl
  | a :: A, q :: Q, ha, hq => by
    rw [List.map_cons, List.map_cons]
    unfold fitB
    rw [Mv.fit A Q (fun y hy => ha y (by simp [hy])) (fun y hy => hq y (by simp [hy])), rn_kids, List.length_map, rn_getD, rn_bar, M.same a _ (ha a (by simp)) (bar_nm ((hq q (by simp)).at0 0))]
  | [], _ :: _, _, _ => rfl
  | _ :: _, [], _, _ => rfl
end
end Go.Proofs.Ythmdllhhmhbhbaa.am
end
