import Derived.Test.YtjjnboenehomgaaPkF8
section
namespace Go.Proofs.Ytjjnboenehomgaa.am
open Go.ChangeShapes Go.WideShapes Go.ChangeAt Go.RowKit
open vt
set_option linter.unusedVariables false
set_option linter.unusedSimpArgs false
theorem sum_le_map {α : Type} {f g : α → Nat} : ∀ {l : List α}, (∀ y ∈ l, f y ≤ g y) → (l.map f).sum ≤ (l.map g).sum
  | [], _ => Nat.le_refl _
  | y :: l, h => by
    have h1 := h y (by simp)
    have h2 := sum_le_map (f := f) (g := g) (l := l) (fun z hz => h z (by simp [hz]))
    simp only [List.map_cons, List.sum_cons]
    omega
theorem find_at {α : Type} {p : α → Bool} {l : List α} {k : Nat} {a : α} (ha : l[k]? = some a) (hp : p a = true) (hno : ∀ x ∈ l.take k, p x = false) : l.find? p = some a := by
  obtain ⟨hk, ha'⟩ := List.getElem?_eq_some_iff.1 ha
  have e : l = l.take k ++ a :: l.drop (k + 1) := by rw [← ha', ← List.drop_eq_getElem_cons hk, List.take_append_drop]
  rw [e, List.find?_append, List.find?_eq_none.2 (fun x hx => by rw [hno x hx]; simp), List.find?_cons, hp]
  rfl
theorem kid_lt {x : Lab} {l : List VT} {y : VT} (h : y ∈ l) : y.size < (Tr.mk x l).size := by
  obtain ⟨i, hi⟩ := List.mem_iff_getElem?.1 h
  exact Tr.size_at hi
structure GV where
  ty : VT
  fo : VT
  pl : Int
  er : Int
noncomputable abbrev vGt (g : GV) : AV := vGot g.ty g.fo g.pl g.er
noncomputable def badG (x : Lab) (e : Int) : GV := ⟨z0T, z0T, x.f, e⟩
noncomputable def ofC (m : VT) (L : List VT) (x : Lab) (l : List VT) (gs : List GV) : GV :=
  if shaE x l.length = false then badG x 12
  else if namB m L.length x = false then badG x 8
  else if l.length = 0 ∧ ¬ x.k = 16 then ⟨aloT m L x l, .mk ⟨x.k, x.n, ⟨#[]⟩, 0, 0⟩ [], 0, 0⟩
  else match gs.find? (fun g => !decide (g.er = 0)) with
    | some g => g
    | none => if (ruleT m x (gs.map GV.ty)).2.2 = 0 then ⟨(ruleT m x (gs.map GV.ty)).1, .mk ⟨x.k, (ruleT m x (gs.map GV.ty)).2.1, ⟨#[]⟩, 0, 0⟩ (gs.map GV.fo), 0, 0⟩ else badG x (ruleT m x (gs.map GV.ty)).2.2
noncomputable def ofT (m : VT) (L : List VT) (t : VT) : GV := Tr.fold (ofC m L) t
theorem ofT_mk (m : VT) (L : List VT) (x : Lab) (l : List VT) : ofT m L (.mk x l) = ofC m L x l (l.map (ofT m L)) := Tr.fold_mk _ x l
theorem twoT_cases (op : Int) (a b : VT) : twoT op a b = tyT 1 ∨ twoT op a b = tyT 2 ∨ twoT op a b = z0T := by
  unfold twoT
  split
  · exact .inr (.inl rfl)
  · split
    · exact .inr (.inl rfl)
    · split
      · exact .inl rfl
      · exact .inr (.inr rfl)
theorem litT_cases (t : VT) : litT t = tyT 1 ∨ litT t = tyT 2 ∨ litT t = z0T := by
  unfold litT
  split
  · exact .inl rfl
  · split
    · exact .inr (.inl rfl)
    · exact .inr (.inr rfl)
theorem getD_size {m : VT} (n : Nat) : (m.kids.getD n z0T).size ≤ m.size := by
  by_cases h : n < m.kids.length
  · have : m.kids.getD n z0T ∈ m.kids := by simp [List.getD, h]
    have := kid_size this
    omega
  · rw [show m.kids.getD n z0T = z0T by simp [List.getD, h]]
    have := Tr.size_pos m
    simp [Tr.size_mk]; omega
theorem getD_ok {m : VT} (hm : in64 m) (n : Nat) : in64 (m.kids.getD n z0T) := by
  by_cases h : n < m.kids.length
  · have : m.kids.getD n z0T ∈ m.kids := by simp [List.getD, h]
    exact kidk_ok hm this
  · rw [show m.kids.getD n z0T = z0T by simp [List.getD, h]]
    exact z0T_ok
def Fine (B : Nat) (t : VT) : Prop := in64 t ∧ t.size ≤ B
theorem Fine.le {B C : Nat} {t : VT} (h : Fine B t) (hBC : B ≤ C) : Fine C t := ⟨h.1, Nat.le_trans h.2 hBC⟩
theorem fine_z0 {B : Nat} (h : 1 ≤ B) : Fine B z0T := ⟨z0T_ok, by simp [Tr.size_mk]; exact h⟩
theorem fine_ty {B : Nat} (h : 1 ≤ B) {k : Int} (hk : 0 ≤ k ∧ k ≤ 9) : Fine B (tyT k) := ⟨tyT_ok k hk, by rw [tyT_size]; exact h⟩
theorem fine_lit {B : Nat} (h : 1 ≤ B) (t : VT) : Fine B (litT t) := by
  rcases litT_cases t with e | e | e <;> rw [e]
  · exact fine_ty h (by omega)
  · exact fine_ty h (by omega)
  · exact fine_z0 h
theorem Fine.bare {B : Nat} {t : VT} (h : Fine B t) : Fine B (barT t) := ⟨barT_ok t h.1, by rw [barT_size]; exact h.2⟩
theorem Fine.kid {B : Nat} {t : VT} (h : Fine B t) (n : Nat) : Fine B (t.kids.getD n z0T) := ⟨getD_ok h.1 n, Nat.le_trans (getD_size n) h.2⟩
theorem aloT_fine {m : VT} {L : List VT} {B : Nat} (hm : Fine B m) (hL : ∀ t ∈ L, Fine B t) (x : Lab) (l : List VT) : Fine B (aloT m L x l) := by
  have hB : 1 ≤ B := Nat.le_trans (Tr.size_pos m) hm.2
  unfold aloT
  split
  · refine Fine.bare ?_
    by_cases h : L.length - 1 - x.n.toNat < L.length
    · exact hL _ (by simp [List.getD, h])
    · rw [show L.getD (L.length - 1 - x.n.toNat) z0T = z0T by simp [List.getD, h]]
      exact fine_z0 hB
  · split
    · exact fine_lit hB _
    · split
      · exact ((hm.kid _).kid _).bare
      · split
        · exact fine_ty hB (by omega)
        · exact fine_lit hB _
theorem ruleT_fine {m : VT} {B : Nat} (hm : Fine B m) {x : Lab} (hx : x.ok) {p : List VT} (hp : ∀ a ∈ p, Fine B a) (hpl : p.length ≤ 1000000) (hms : m.size ≤ 1000000) : Fine (B + 1) (ruleT m x p).1 ∧ (-9223372036854775808 ≤ (ruleT m x p).2.1 ∧ (ruleT m x p).2.1 ≤ 9223372036854775807) := by
  have hB : 1 ≤ B := Nat.le_trans (Tr.size_pos m) hm.2
  have g0 : Fine B (p.getD 0 z0T) := by
    by_cases h : 0 < p.length
    · exact hp _ (by simp [List.getD, h])
    · rw [show p.getD 0 z0T = z0T by simp [List.getD, h]]
      exact fine_z0 hB
  have hn := hx.2.1
  have hz : Fine (B + 1) z0T := fine_z0 (by omega)
  unfold ruleT
  split
  · refine ⟨?_, hn⟩
    rcases twoT_cases x.n (p.getD 0 z0T) (p.getD 1 z0T) with e | e | e <;> rw [e]
    · exact fine_ty (by omega) (by omega)
    · exact fine_ty (by omega) (by omega)
    · exact hz
  · split
    · exact ⟨g0.le (by omega), hn⟩
    · split
      · exact ⟨(g0.kid 0).le (by omega), hn⟩
      · split
        · split
          · exact ⟨hz, by constructor <;> (dsimp only; omega)⟩
          · rename_i h0
            refine ⟨Fine.bare ⟨fldA_ok hm.1 _, Nat.le_trans (fldA_size _ _) (Nat.le_trans hm.2 (by omega))⟩, ?_, fieldN_hi hms hx⟩
            dsimp only; omega
        · split
          · exact ⟨⟨(Tr.all_mk _ _ _).2 ⟨⟨by simp, hn, by simp, by simp⟩, fun y hy => by simp at hy⟩, by simp [Tr.size_mk]⟩, hn⟩
          · split
            · exact ⟨(((hm.kid _).kid _).bare).le (by omega), hn⟩
            · split
              · exact ⟨hz, by constructor <;> (dsimp only; omega)⟩
              · split
                · split
                  · exact ⟨hz, by constructor <;> (dsimp only; omega)⟩
                  · refine ⟨⟨(Tr.all_mk _ _ _).2 ⟨⟨by simp, by constructor <;> (dsimp only; omega), by simp, by simp⟩, fun y hy => by simp at hy; subst hy; exact g0.1⟩, ?_⟩, hn⟩
                    have := g0.2
                    rw [Tr.size_mk]; simp only [List.map_cons, List.map_nil, List.sum_cons, List.sum_nil]; omega
                · exact ⟨hz, by constructor <;> (dsimp only; omega)⟩
structure OfOk (B : Nat) (t : VT) (g : GV) : Prop where
  ty : Fine (B + t.size) g.ty
  fo : Fine t.size g.fo
  pl : -9223372036854775808 ≤ g.pl ∧ g.pl ≤ 9223372036854775807
theorem badG_ok {B : Nat} {x : Lab} {l : List VT} (hx : x.ok) (e : Int) : OfOk B (.mk x l) (badG x e) :=
  ⟨fine_z0 (by have := Tr.size_pos (Tr.mk x l); omega), fine_z0 (Tr.size_pos _), hx.2.2.1⟩
theorem ofT_ok {m : VT} {L : List VT} {B : Nat} (hm : Fine B m) (hms : m.size ≤ 1000000) (hL : ∀ t ∈ L, Fine B t) (t : VT) : in64 t → t.size ≤ 1000000 → OfOk B t (ofT m L t) := by
  induction t using Tr.ind with
  | h x l ih =>
  intro ht hts
  obtain ⟨hx, hl⟩ := (Tr.all_mk _ x l).1 ht
  have hlen := Tr.len_size (x := x) (l := l)
  rw [ofT_mk]
  unfold ofC
  have hs1 : (Tr.mk x ([] : List VT)).size ≤ (Tr.mk x l).size := by simp [Tr.size_mk]
  split
  · exact badG_ok hx _
  · split
    · exact badG_ok hx _
    · split
      · exact ⟨(aloT_fine hm hL x l).le (by omega), ⟨(Tr.all_mk _ _ _).2 ⟨⟨hx.1, hx.2.1, by simp, by simp⟩, fun y hy => by simp at hy⟩, by rw [Tr.size_mk] at hs1 ⊢; exact hs1⟩, by simp⟩
      · split
        · rename_i g hg
          obtain ⟨y, hy, rfl⟩ := List.mem_map.1 (List.mem_of_find?_eq_some hg)
          have hys := kid_lt (x := x) hy
          have := ih y hy (hl y hy) (by omega)
          exact ⟨this.ty.le (by omega), this.fo.le (by omega), this.pl⟩
        · have hk : ∀ a ∈ (l.map (ofT m L)).map GV.ty, Fine (B + ((Tr.mk x l).size - 1)) a := by
            intro a ha
            rw [List.map_map] at ha
            obtain ⟨y, hy, rfl⟩ := List.mem_map.1 ha
            have hys := kid_lt (x := x) hy
            exact (ih y hy (hl y hy) (by omega)).ty.le (by omega)
          have hp := Tr.size_pos (Tr.mk x l)
          have hr := ruleT_fine (m := m) (B := B + ((Tr.mk x l).size - 1)) (hm.le (by omega)) hx hk (by simp; omega) hms
          split
          · refine ⟨hr.1.le (by omega), ⟨(Tr.all_mk _ _ _).2 ⟨⟨hx.1, hr.2, by simp, by simp⟩, fun a ha => ?_⟩, ?_⟩, by simp⟩
            · rw [List.map_map] at ha
              obtain ⟨y, hy, rfl⟩ := List.mem_map.1 ha
              have hys := kid_lt (x := x) hy
              exact (ih y hy (hl y hy) (by omega)).fo.1
            · rw [Tr.size_mk, Tr.size_mk, List.map_map, List.map_map]
              refine Nat.add_le_add_left (sum_le_map (fun y hy => ?_)) 1
              have hys := kid_lt (x := x) hy
              exact (ih y hy (hl y hy) (by omega)).fo.2
          · exact badG_ok hx _
theorem namB_at {m : VT} {n : Nat} {x : Lab} (h : namB m n x = true) : (x.k = 7 → 0 ≤ x.n ∧ x.n < n) ∧ (x.k = 8 ∨ x.k = 9 → 0 ≤ x.n ∧ ∃ dx e, m.kids[x.n.toNat]? = some (.mk dx [e])) ∧ (x.k = 15 → 0 ≤ x.n ∧ ∃ d, m.kids[x.n.toNat]? = some d) ∧ (x.k = 16 → 0 ≤ x.n ∧ ∃ dx a b c, m.kids[x.n.toNat]? = some (.mk dx [a, b, c])) := by
  have hb : ∀ k, hasB m x.n k = true → 0 ≤ x.n ∧ ∃ d, m.kids[x.n.toNat]? = some d ∧ hasD d k = true := by
    intro k hk
    unfold hasB at hk
    split at hk
    · cases hk
    · split at hk
      · cases hk
      · rename_i d hd
        exact ⟨by omega, d, hd, by simp at hk; exact hk.2⟩
  unfold namB at h
  refine ⟨fun e => ?_, fun e => ?_, fun e => ?_, fun e => ?_⟩
  · rw [if_pos e] at h; simpa using h
  · rcases e with e | e
    · rw [if_neg (by omega), if_pos e] at h
      obtain ⟨h0, ⟨dx, dl⟩, hd, hh⟩ := hb _ h
      unfold hasD at hh
      simp [Tr.kids] at hh
      obtain ⟨a, rfl⟩ := one_of (l := dl) (of_decide_eq_true hh.1)
      exact ⟨h0, dx, a, hd⟩
    · rw [if_neg (by omega), if_neg (by omega), if_pos e] at h
      obtain ⟨h0, ⟨dx, dl⟩, hd, hh⟩ := hb _ h
      unfold hasD at hh
      simp [Tr.kids] at hh
      obtain ⟨a, rfl⟩ := one_of (l := dl) (of_decide_eq_true hh)
      exact ⟨h0, dx, a, hd⟩
  · rw [if_neg (by omega), if_neg (by omega), if_neg (by omega), if_pos e] at h
    obtain ⟨h0, d, hd, _⟩ := hb _ h
    exact ⟨h0, d, hd⟩
  · rw [if_neg (by omega), if_neg (by omega), if_neg (by omega), if_neg (by omega), if_pos e] at h
    obtain ⟨h0, ⟨dx, dl⟩, hd, hh⟩ := hb _ h
    unfold hasD at hh
    simp [Tr.kids] at hh
    obtain ⟨a, b, c, rfl⟩ := three_of (l := dl) (of_decide_eq_true hh)
    exact ⟨h0, dx, a, b, c, hd⟩
set_option maxRecDepth 100000 in
set_option maxHeartbeats 4000000 in
theorem rof_row (m : VT) (L : List VT) (B : Nat) (hm : Fine B m) (hL : ∀ t ∈ L, Fine B t) (hB : B ≤ 400000) (hLl : L.length ≤ 1000000) (t : VT) : in64 t → t.size ≤ 400000 → Row Try.prog 126 [vT m, vLs L, vT t] [] (vGt (ofT m L t)) [] := by
  induction t using Tr.ind with
  | h x l ih =>
  intro ht hts
  have hok := ofT_ok hm (by have := hm.2; omega) hL (.mk x l) ht (by omega)
  obtain ⟨hx, hl⟩ := (Tr.all_mk _ x l).1 ht
  have hlen := Tr.len_size (x := x) (l := l)
  have hms := hm.2
  have hsha := rshaE_row x l
  have hnam := rnam_row m (by omega) L x l hx
  have hb12 := rbad_row x l 12
  have hb8 := rbad_row x l 8
  rw [ofT_mk]
  unfold ofC
  cases hS : shaE x l.length with
  | false =>
    rw [hS] at hsha
    rw [if_pos rfl]
    unfold badG
    clear ih hok hnam hb8
    obtain ⟨mx, ml⟩ := m
    refine row_of Try.func126 rfl rfl (Nat.le_of_ble_eq_true rfl) ?_
    repeat' (first | refine aw_seq ?_ | refine aw_skip ?_ | refine aw_block ?_ | refine aw_exit ?_ | refine aw_cond rfl (fun _ => ?_) (fun hb => absurd hb (by decide)) | refine aw_cond rfl (fun hb => absurd hb (by decide)) (fun _ => ?_) | (refine aw_reg (fun K hK => ?_); simp -implicitDefEqProofs) | (refine aw_drw mixd (fun K hK => ?_); simp -implicitDefEqProofs) | refine hK _ ?_ | refine hK _ _ (by rfl) ?_ | (refine ar_call (cp hsha ?_); simp -implicitDefEqProofs) | (refine ard_call (dp hsha ?_); simp -implicitDefEqProofs) | (refine ar_call (cp hb12 ?_); simp -implicitDefEqProofs) | (refine ard_call (dp hb12 ?_); simp -implicitDefEqProofs) | fail)
    refine aw_ret (fin_ret ?_); simp -implicitDefEqProofs [FinP, resV, resT] <;> try rfl
  | true =>
  rw [hS] at hsha
  rw [if_neg (by simp)]
  cases hN : namB m L.length x with
  | false =>
    rw [hN] at hnam
    rw [if_pos rfl]
    unfold badG
    clear ih hok hb12
    obtain ⟨mx, ml⟩ := m
    refine row_of Try.func126 rfl rfl (Nat.le_of_ble_eq_true rfl) ?_
    repeat' (first | refine aw_seq ?_ | refine aw_skip ?_ | refine aw_block ?_ | refine aw_exit ?_ | refine aw_cond rfl (fun _ => ?_) (fun hb => absurd hb (by decide)) | refine aw_cond rfl (fun hb => absurd hb (by decide)) (fun _ => ?_) | (refine aw_reg (fun K hK => ?_); simp -implicitDefEqProofs) | (refine aw_drw mixd (fun K hK => ?_); simp -implicitDefEqProofs) | refine hK _ ?_ | refine hK _ _ (by rfl) ?_ | (refine ar_call (cp hsha ?_); simp -implicitDefEqProofs) | (refine ard_call (dp hsha ?_); simp -implicitDefEqProofs) | (refine ar_call (cp hnam ?_); simp -implicitDefEqProofs) | (refine ard_call (dp hnam ?_); simp -implicitDefEqProofs) | (refine ar_call (cp hb8 ?_); simp -implicitDefEqProofs) | (refine ard_call (dp hb8 ?_); simp -implicitDefEqProofs) | fail)
    refine aw_ret (fin_ret ?_); simp -implicitDefEqProofs [FinP, resV, resT] <;> try rfl
  | true =>
  rw [hN] at hnam
  rw [if_neg (by simp)]
  clear hb12 hb8
  obtain ⟨n7, n89, n15, n16⟩ := namB_at hN
  by_cases h0 : l.length = 0 ∧ ¬ x.k = 16
  · rw [if_pos h0]
    obtain ⟨l0, k16⟩ := h0
    have : l = [] := List.eq_nil_of_length_eq_zero l0
    subst this
    have hal := ralone_row m (by omega) L (fun t h => by have := (hL t h).2; omega) hLl x [] n7 n89
    obtain ⟨⟨bx, bl⟩, hbb⟩ : ∃ b, aloT m L x [] = b := ⟨_, rfl⟩
    rw [hbb] at hal ⊢
    clear ih hok hbb
    obtain ⟨mx, ml⟩ := m
    refine row_of Try.func126 rfl rfl (Nat.le_of_ble_eq_true rfl) ?_
    repeat' (first | refine aw_seq ?_ | refine aw_skip ?_ | refine aw_block ?_ | refine aw_exit ?_ | refine aw_cond rfl (fun _ => ?_) (fun hb => absurd hb (by decide)) | refine aw_cond rfl (fun hb => absurd hb (by decide)) (fun _ => ?_) | (refine aw_reg (fun K hK => ?_); simp -implicitDefEqProofs [k16]) | (refine aw_drw mixd (fun K hK => ?_); simp -implicitDefEqProofs [k16]) | refine hK _ ?_ | refine hK _ _ (by rfl) ?_ | (refine ar_call (cp hsha ?_); simp -implicitDefEqProofs [k16]) | (refine ard_call (dp hsha ?_); simp -implicitDefEqProofs [k16]) | (refine ar_call (cp hnam ?_); simp -implicitDefEqProofs [k16]) | (refine ard_call (dp hnam ?_); simp -implicitDefEqProofs [k16]) | (refine ar_call (cp hal ?_); simp -implicitDefEqProofs [k16]) | (refine ard_call (dp hal ?_); simp -implicitDefEqProofs [k16]) | fail)
    refine aw_ret (fin_ret ?_); simp -implicitDefEqProofs [FinP, resV, resT] <;> try rfl
  rw [if_neg h0]
  have hgo : ¬ ((l.length : Int) = 0 ∧ ¬ x.k = 16) := fun h => h0 ⟨by omega, h.2⟩
  have hgl : ∀ a ∈ (l.map (ofT m L)).map GV.ty, in64 a ∧ a.size ≤ 900000 := by
    intro a ha
    rw [List.map_map] at ha
    obtain ⟨y, hy, rfl⟩ := List.mem_map.1 ha
    have hys := kid_lt (x := x) hy
    have := (ofT_ok hm (by omega) hL y (hl y hy) (by omega)).ty
    exact ⟨this.1, by have := this.2; show (ofT m L y).ty.size ≤ _; omega⟩
  have hru := rrule_row m hm.1 (by omega) x l hx ((l.map (ofT m L)).map GV.ty) hgl (by simp; omega) (by simpa using hS) n15 n16
  obtain ⟨⟨⟨rx, rl⟩, rn, re⟩, hR⟩ : ∃ R, ruleT m x ((l.map (ofT m L)).map GV.ty) = R := ⟨_, rfl⟩
  rw [hR] at hru ⊢
  have hbe := rbad_row x l re
  obtain ⟨F, hF⟩ : ∃ F, (match (l.map (ofT m L)).find? (fun g => !decide (g.er = 0)) with
    | some g => g
    | none => if re = 0 then ⟨.mk rx rl, .mk ⟨x.k, rn, ⟨#[]⟩, 0, 0⟩ ((l.map (ofT m L)).map GV.fo), 0, 0⟩ else badG x re : GV) = F := ⟨_, rfl⟩
  dsimp only at hF ⊢
  rw [hF]
  clear hR hok
  have hat : ∀ (k : Nat) ax al, l[k]? = some (.mk ax al) → ¬ (ofT m L (.mk ax al)).er = 0 → (∀ y ∈ l.take k, (ofT m L y).er = 0) → F = ofT m L (.mk ax al) := by
    intro k ax al ha he hno
    rw [← hF, find_at (k := k) (a := ofT m L (.mk ax al)) (by rw [List.getElem?_map, ha]; rfl) (by simpa using he) (fun g hg => by
      rw [← List.map_take] at hg
      obtain ⟨y, hy, rfl⟩ := List.mem_map.1 hg
      simpa using hno y hy)]
  have hend : (∀ y ∈ l, (ofT m L y).er = 0) → F = if re = 0 then ⟨.mk rx rl, .mk ⟨x.k, rn, ⟨#[]⟩, 0, 0⟩ ((l.map (ofT m L)).map GV.fo), 0, 0⟩ else badG x re := by
    intro hno
    rw [← hF, List.find?_eq_none.2 (fun g hg => by
      obtain ⟨y, hy, rfl⟩ := List.mem_map.1 hg
      simpa using hno y hy)]
  clear hF
  have hor : (∃ _ : ¬ l.length = 0, ¬ (l.length : Int) = 0 ∧ True) ∨ (∃ _ : l.length = 0, (l.length : Int) = 0 ∧ x.k = 16) := by
    rcases Classical.em (l.length = 0) with h | h
    · exact .inr ⟨h, by omega, Classical.byContradiction fun k => h0 ⟨h, k⟩⟩
    · exact .inl ⟨h, by omega, trivial⟩
  clear h0 hgo
  obtain ⟨Ty, hTy⟩ : ∃ Ty : List VT, (l.map (ofT m L)).map GV.ty = Ty := ⟨_, rfl⟩
  have hgt : ∀ k, ((l.take k).map (ofT m L)).map GV.ty = Ty.take k := fun k => by rw [← hTy, List.map_take, List.map_take]
  obtain ⟨Fo, hFo⟩ : ∃ Fo : List VT, (l.map (ofT m L)).map GV.fo = Fo := ⟨_, rfl⟩
  have hgf : ∀ k, ((l.take k).map (ofT m L)).map GV.fo = Fo.take k := fun k => by rw [← hFo, List.map_take, List.map_take]
  have hTl : Ty.length = l.length := by rw [← hTy]; simp
  have hFl : Fo.length = l.length := by rw [← hFo]; simp
  have hTk : ∀ k y, l[k]? = some y → Ty.take (k + 1) = Ty.take k ++ [(ofT m L y).ty] := fun k y h => by
    rw [List.take_add_one, ← hTy, List.getElem?_map, List.getElem?_map, h]; rfl
  have hFk : ∀ k y, l[k]? = some y → Fo.take (k + 1) = Fo.take k ++ [(ofT m L y).fo] := fun k y h => by
    rw [List.take_add_one, ← hFo, List.getElem?_map, List.getElem?_map, h]; rfl
  rw [hTy] at hru
  rw [hFo] at hend
  clear hTy hFo hgt hgf hgl
  obtain ⟨mx, ml⟩ := m
  rcases hor with ⟨l0, l0', k16⟩ | ⟨l0, l0', k16⟩
  all_goals (
    refine row_of Try.func126 rfl rfl (Nat.le_of_ble_eq_true rfl) ?_
    repeat' (first | refine aw_seq ?_ | refine aw_skip ?_ | refine aw_block ?_ | refine aw_exit ?_ | refine aw_cond rfl (fun _ => ?_) (fun hb => absurd hb (by decide)) | refine aw_cond rfl (fun hb => absurd hb (by decide)) (fun _ => ?_) | (refine aw_reg (fun K hK => ?_); simp -implicitDefEqProofs [l0, l0', k16]) | (refine aw_drw mixd (fun K hK => ?_); simp -implicitDefEqProofs [l0, l0', k16]) | refine hK _ ?_ | refine hK _ _ (by rfl) ?_ | (refine ar_call (cp hsha ?_); simp -implicitDefEqProofs [l0, l0', k16]) | (refine ard_call (dp hsha ?_); simp -implicitDefEqProofs [l0, l0', k16]) | (refine ar_call (cp hnam ?_); simp -implicitDefEqProofs [l0, l0', k16]) | (refine ard_call (dp hnam ?_); simp -implicitDefEqProofs [l0, l0', k16]) | fail)
    refine aw_lp (ι := Nat) (fun k => mkSt [(1, vLs L), (3, .v (.c (.ptr 0 0))), (5, .v (.c (.ptr 1 0))), (6, .v (.c (.ptr 2 0))), (7, .v (.c (.row 3 6 ((Ty.take k).map tc)))), (8, .v (.c (.row 4 6 ((Fo.take k).map tc)))), (9, vI (k : Nat))] [some (.box (ta (.mk mx ml))), some (.box (ta (.mk x l))), some (.box (ta z0T ++ (ta z0T ++ [.pv (I 0), .pv (I 0)]))), some (.row 24 6), some (.row 24 6)]) (fun k => k ≤ l.length ∧ ∀ y ∈ l.take k, (ofT (.mk mx ml) L y).er = 0) (fun k => l.length - k) 0 ⟨Nat.zero_le _, by simp⟩ (by first | (refine cov_intro [0, 1, 2, 31, 33] ?_ ?_ (by decide) rfl (by simp) <;> (simp -implicitDefEqProofs; done)) | (refine cov_intro [0, 1, 2, 34, 36] ?_ ?_ (by decide) rfl (by simp) <;> (simp -implicitDefEqProofs [k16]; done))) (fun Z hI k hk => ?_)
    obtain ⟨hk, hz⟩ := hk
    by_cases hkl : k < l.length; rotate_left
    · have : k = l.length := by omega
      subst this
      rw [List.take_length] at hz
      rw [hend hz]
      have e1 : Ty.take l.length = Ty := List.take_of_length_le (by omega)
      have e2 : Fo.take l.length = Fo := List.take_of_length_le (by omega)
      rw [e1, e2]
      by_cases he : re = 0
      · subst he
        repeat' (first | refine aw_seq ?_ | refine aw_skip ?_ | refine aw_block ?_ | refine aw_exit ?_ | refine aw_cond rfl (fun _ => ?_) (fun hb => absurd hb (by decide)) | refine aw_cond rfl (fun hb => absurd hb (by decide)) (fun _ => ?_) | (refine aw_reg (fun K hK => ?_); simp -implicitDefEqProofs) | (refine aw_drw mixd (fun K hK => ?_); simp -implicitDefEqProofs) | refine hK _ ?_ | refine hK _ _ (by rfl) ?_ | (refine ar_call (cp hru ?_); simp -implicitDefEqProofs) | (refine ard_call (dp hru ?_); simp -implicitDefEqProofs) | fail)
        refine aw_ret (fin_ret ?_); simp -implicitDefEqProofs [FinP, resV, resT] <;> try rfl
      · unfold badG
        repeat' (first | refine aw_seq ?_ | refine aw_skip ?_ | refine aw_block ?_ | refine aw_exit ?_ | refine aw_cond rfl (fun _ => ?_) (fun hb => absurd hb (by decide)) | refine aw_cond rfl (fun hb => absurd hb (by decide)) (fun _ => ?_) | (refine aw_reg (fun K hK => ?_); simp -implicitDefEqProofs [he]) | (refine aw_drw mixd (fun K hK => ?_); simp -implicitDefEqProofs [he]) | refine hK _ ?_ | refine hK _ _ (by rfl) ?_ | (refine ar_call (cp hru ?_); simp -implicitDefEqProofs [he]) | (refine ard_call (dp hru ?_); simp -implicitDefEqProofs [he]) | (refine ar_call (cp hbe ?_); simp -implicitDefEqProofs [he]) | (refine ard_call (dp hbe ?_); simp -implicitDefEqProofs [he]) | fail)
        refine aw_ret (fin_ret ?_); simp -implicitDefEqProofs [FinP, resV, resT, he] <;> try rfl
    obtain ⟨⟨ax, al⟩, ha⟩ : ∃ a, l[k]? = some a := ⟨_, List.getElem?_eq_getElem hkl⟩
    have ha' := (List.getElem?_eq_some_iff.1 ha).2
    have hsz1 := Tr.size_at (x := x) ha
    have hc := ih _ (List.mem_of_getElem? ha) (hl _ (List.mem_of_getElem? ha)) (by omega)
    have w2 : IntKind.i64.wrap ((k : Nat) + 1 : Int) = (k : Nat) + 1 := i64i _ (by omega) (by omega)
    have hs := hTk k _ ha
    have hf := hFk k _ ha
    have hto := hat k ax al ha
    have hTkl : (Ty.take k).length = k := by rw [List.length_take]; omega
    have hFkl : (Fo.take k).length = k := by rw [List.length_take]; omega
    obtain ⟨TK, hTK⟩ : ∃ TK, Ty.take k = TK := ⟨_, rfl⟩
    obtain ⟨FK, hFK⟩ : ∃ FK, Fo.take k = FK := ⟨_, rfl⟩
    have hnx : (ofT (.mk mx ml) L (.mk ax al)).er = 0 → ∀ y ∈ l.take (k + 1), (ofT (.mk mx ml) L y).er = 0 := by
      intro he y hy
      rw [List.take_add_one, ha] at hy
      rcases List.mem_append.1 hy with hy | hy
      · exact hz y hy
      · simp at hy; subst hy; exact he
    obtain ⟨⟨⟨bx, bl⟩, ⟨cx, cl⟩, gp, ge⟩, hG⟩ : ∃ g, ofT (.mk mx ml) L (.mk ax al) = g := ⟨_, rfl⟩
    rw [hG] at hc hto hs hf hnx
    rw [hTK] at hs hTkl ⊢
    rw [hFK] at hf hFkl ⊢
    clear hG hTK hFK hTk hFk hat hend ih
    have b1 : (k + 1) * 72 ≤ 140737488355328 := by omega
    have b2 : k + 1 ≤ 140737488355328 := by omega
    by_cases he : ge = 0
    · have he' := eq_true he
      repeat' (first | refine aw_seq ?_ | refine aw_skip ?_ | refine aw_block ?_ | refine aw_exit ?_ | refine aw_cond rfl (fun _ => ?_) (fun hb => absurd hb (by decide)) | refine aw_cond rfl (fun hb => absurd hb (by decide)) (fun _ => ?_) | (refine aw_reg (fun K hK => ?_); simp -implicitDefEqProofs [hkl, ha, ha', hTkl, hFkl, b1, b2, w2, he']) | (refine aw_drw mixd (fun K hK => ?_); simp -implicitDefEqProofs [hkl, ha, ha', hTkl, hFkl, b1, b2, w2, he']) | refine hK _ ?_ | refine hK _ _ (by rfl) ?_ | (refine ar_call (cp hc ?_); simp -implicitDefEqProofs [hkl, ha, ha', hTkl, hFkl, b1, b2, w2, he']) | (refine ard_call (dp hc ?_); simp -implicitDefEqProofs [hkl, ha, ha', hTkl, hFkl, b1, b2, w2, he']) | fail)
      refine ⟨k + 1, ⟨by omega, hnx he⟩, (by dsimp only; omega), ?_⟩
      rw [hI, hs, hf]; exact cov_intro [0, 1, 2, 97, 103] (by simp -implicitDefEqProofs) (by simp -implicitDefEqProofs) (by decide) rfl (by simp)
    · rw [hto he hz]
      repeat' (first | refine aw_seq ?_ | refine aw_skip ?_ | refine aw_block ?_ | refine aw_exit ?_ | refine aw_cond rfl (fun _ => ?_) (fun hb => absurd hb (by decide)) | refine aw_cond rfl (fun hb => absurd hb (by decide)) (fun _ => ?_) | (refine aw_reg (fun K hK => ?_); simp -implicitDefEqProofs [hkl, ha, ha', he]) | (refine aw_drw mixd (fun K hK => ?_); simp -implicitDefEqProofs [hkl, ha, ha', he]) | refine hK _ ?_ | refine hK _ _ (by rfl) ?_ | (refine ar_call (cp hc ?_); simp -implicitDefEqProofs [hkl, ha, ha', he]) | (refine ard_call (dp hc ?_); simp -implicitDefEqProofs [hkl, ha, ha', he]) | fail)
      refine aw_ret (fin_ret ?_); simp -implicitDefEqProofs [FinP, resV, resT] <;> try rfl)
end Go.Proofs.Ytjjnboenehomgaa.am
end
section
namespace Go.Proofs.Ytjjnboenehomgaa.am
open Go.ChangeShapes Go.WideShapes Go.ChangeAt Go.RowKit
open vt
set_option linter.unusedVariables false
set_option linter.unusedSimpArgs false
structure GR where
  t : VT
  pl : Int
  er : Int
noncomputable def badR (x : Lab) (e : Int) : GR := ⟨z0T, x.f, e⟩
noncomputable def fromG (g : GV) : GR := ⟨g.fo, g.pl, g.er⟩
def prtN (k : Int) : Int × Int :=
  if k = 20 ∨ k = 21 ∨ k = 26 ∨ k = 27 ∨ k = 28 then (1, 0)
  else if k = 22 then (2, 0)
  else if k = 23 then (3, 2)
  else if k = 24 then (2, 1)
  else if k = 25 then (3, 1)
  else (-1, 0)
def blkB (y : VT) : Bool := decide (y.lab.k = 29)
def shpS (x : Lab) (l : List VT) : Bool := if x.k = 29 then true else decide ((l.length : Int) = (prtN x.k).1) && (l.drop ((prtN x.k).1 - (prtN x.k).2).toNat).all blkB
noncomputable def brgT (m : VT) (L : List VT) (t : VT) : List VT :=
  if t.lab.k = 20 ∧ t.kids.length = 1 then L ++ [(ofT m L (t.kids.getD 0 z0T)).ty]
  else if t.lab.k = 21 ∧ t.kids.length = 1 then L ++ [t.kids.getD 0 z0T]
  else L
noncomputable def onlT (m : VT) (L : List VT) (t : VT) (a b : Int) : GR :=
  if (ofT m L t).er = 0 ∧ isT (ofT m L t).ty a = false ∧ isT (ofT m L t).ty b = false then badR t.lab 10 else fromG (ofT m L t)
noncomputable def blkG (m : VT) (x : Lab) : List (VT × (List VT → GR)) → List VT → List VT → GR
  | [], _, acc => ⟨.mk ⟨x.k, x.n, ⟨#[]⟩, 0, 0⟩ acc, 0, 0⟩
  | p :: r, L, acc => if (p.2 L).er = 0 then blkG m x r (brgT m L p.1) (acc ++ [(p.2 L).t]) else p.2 L
noncomputable def prtG (m ret : VT) (L : List VT) (x : Lab) (i : Nat) (y : VT) (f : List VT → GR) : GR :=
  if (prtN x.k).1 - (prtN x.k).2 ≤ i then f (if x.k = 25 then L ++ [tyT 1] else L)
  else if x.k = 21 then (if cels m y = 0 then badR y.lab 11 else ⟨nmlT y, 0, 0⟩)
  else if x.k = 23 ∨ x.k = 24 then onlT m L y 2 2
  else if x.k = 25 then onlT m L y 1 1
  else if x.k = 26 then onlT m L y 1 2
  else if x.k = 28 ∧ ¬ y.lab.k = 16 then badR y.lab 12
  else if x.k = 27 ∧ (ofT m L y).er = 0 ∧ same (ofT m L y).ty (barT ret) = false then badR y.lab 10
  else fromG (ofT m L y)
noncomputable def prtsG (m ret : VT) (L : List VT) (x : Lab) : Nat → List (VT × (List VT → GR)) → List GR
  | _, [] => []
  | i, p :: r => prtG m ret L x i p.1 p.2 :: prtsG m ret L x (i + 1) r
noncomputable def endG (m : VT) (L : List VT) (x : Lab) (l : List VT) (gs : List GR) : GR :=
  if x.k = 22 ∧ ¬ ((rootT (l.getD 0 z0T)).lab.k = 7 ∨ (rootT (l.getD 0 z0T)).lab.k = 9) then badR (l.getD 0 z0T).lab 12
  else if x.k = 22 ∧ same (ofT m L (l.getD 0 z0T)).ty (ofT m L (l.getD 1 z0T)).ty = false then badR x 10
  else ⟨.mk ⟨x.k, x.n, ⟨#[]⟩, 0, 0⟩ (gs.map GR.t), 0, 0⟩
noncomputable def stmC (m ret : VT) (x : Lab) (l : List VT) (fs : List (List VT → GR)) (L : List VT) : GR :=
  if shpS x l = false then badR x 12
  else if x.k = 29 then blkG m x (l.zip fs) L []
  else match (prtsG m ret L x 0 (l.zip fs)).find? (fun g => !decide (g.er = 0)) with
    | some g => g
    | none => endG m L x l (prtsG m ret L x 0 (l.zip fs))
noncomputable def stmT (m ret : VT) (t : VT) : List VT → GR := Tr.fold (stmC m ret) t
theorem stmT_mk (m ret : VT) (x : Lab) (l : List VT) : stmT m ret (.mk x l) = stmC m ret x l (l.map (stmT m ret)) := Tr.fold_mk _ x l
theorem zip_map {α β : Type} (f : α → β) : ∀ l : List α, l.zip (l.map f) = l.map (fun y => (y, f y))
  | [] => rfl
  | y :: l => by rw [List.map_cons, List.zip_cons_cons, zip_map f l]; rfl
noncomputable def blkT (m ret : VT) (x : Lab) : List VT → List VT → List VT → GR
  | [], _, acc => ⟨.mk ⟨x.k, x.n, ⟨#[]⟩, 0, 0⟩ acc, 0, 0⟩
  | t :: r, L, acc => if (stmT m ret t L).er = 0 then blkT m ret x r (brgT m L t) (acc ++ [(stmT m ret t L).t]) else stmT m ret t L
theorem blkG_eq (m ret : VT) (x : Lab) : ∀ (l : List VT) (L acc : List VT), blkG m x (l.map (fun y => (y, stmT m ret y))) L acc = blkT m ret x l L acc
  | [], L, acc => rfl
  | t :: r, L, acc => by
    rw [List.map_cons]
    unfold blkG blkT
    rw [blkG_eq m ret x r]
noncomputable def prtT (m ret : VT) (L : List VT) (x : Lab) (i : Nat) (y : VT) : GR := prtG m ret L x i y (stmT m ret y)
noncomputable def prtsT (m ret : VT) (L : List VT) (x : Lab) : Nat → List VT → List GR
  | _, [] => []
  | i, y :: r => prtT m ret L x i y :: prtsT m ret L x (i + 1) r
theorem prtsG_eq (m ret : VT) (L : List VT) (x : Lab) : ∀ (i : Nat) (l : List VT), prtsG m ret L x i (l.map (fun y => (y, stmT m ret y))) = prtsT m ret L x i l
  | _, [] => rfl
  | i, y :: r => by
    rw [List.map_cons]
    unfold prtsG prtsT
    rw [prtsG_eq m ret L x (i + 1) r]
    rfl
theorem stmT_eq (m ret : VT) (x : Lab) (l : List VT) (L : List VT) : stmT m ret (.mk x l) L = if shpS x l = false then badR x 12
  else if x.k = 29 then blkT m ret x l L []
  else match (prtsT m ret L x 0 l).find? (fun g => !decide (g.er = 0)) with
    | some g => g
    | none => endG m L x l (prtsT m ret L x 0 l) := by
  rw [stmT_mk]
  unfold stmC
  rw [zip_map, blkG_eq, prtsG_eq]
def ptdB (l : List VT) : Bool := l.all partB
def typsT (f : VT) : List VT := ((f.kids.getD 0 z0T).kids).map (fun q => q.kids.getD 0 z0T)
noncomputable def fnT (m : VT) (x : Lab) (l : List VT) : GR :=
  if ¬ (x.n = 0 ∨ x.n = 1) ∨ ¬ l.length = 3 ∨ ¬ (l.getD 0 z0T).lab.k = 35 ∨ ptdB (l.getD 0 z0T).kids = false ∨ ¬ (l.getD 2 z0T).lab.k = 29 then badR x 12
  else match (typsT (.mk x l) ++ [l.getD 1 z0T]).find? (fun a => decide (cels m a = 0)) with
    | some a => badR a.lab 11
    | none => match (typsT (.mk x l) ++ [l.getD 1 z0T]).find? (fun a => decide (x.n = 1) && !(decide (0 < cels m a) && frT a)) with
      | some a => badR a.lab 12
      | none => if (stmT m (l.getD 1 z0T) (l.getD 2 z0T) (typsT (.mk x l))).er = 0
          then ⟨.mk ⟨x.k, x.n, ⟨#[]⟩, 0, 0⟩ [nmlT (l.getD 0 z0T), nmlT (l.getD 1 z0T), (stmT m (l.getD 1 z0T) (l.getD 2 z0T) (typsT (.mk x l))).t], 0, 0⟩
          else stmT m (l.getD 1 z0T) (l.getD 2 z0T) (typsT (.mk x l))
noncomputable def decT (m : VT) (i : Nat) (t : VT) : GR :=
  if t.lab.k = 33 then fnT m t.lab t.kids
  else if t.lab.k = 30 then
    (if shpB t = false then badR t.lab 12 else if cels m (.mk ⟨4, i, ⟨#[]⟩, 0, 0⟩ []) = 0 then badR t.lab 11 else ⟨nmlT t, 0, 0⟩)
  else if t.lab.k = 32 ∧ t.kids.length = 1 then
    (if cels m (t.kids.getD 0 z0T) = 0 then badR (t.kids.getD 0 z0T).lab 11 else ⟨nmlT t, 0, 0⟩)
  else if ¬ t.lab.k = 31 ∨ ¬ t.kids.length = 1 ∨ 0 < (t.kids.getD 0 z0T).kids.length ∨ (litT (t.kids.getD 0 z0T)).lab.k = 0 ∨ ((t.kids.getD 0 z0T).lab.k = 6 ∧ ¬ (t.kids.getD 0 z0T).lab.n = 0 ∧ ¬ (t.kids.getD 0 z0T).lab.n = 1) then badR t.lab 12
  else ⟨nmlT t, 0, 0⟩
noncomputable def decsT (m : VT) : Nat → List VT → List GR
  | _, [] => []
  | i, t :: r => decT m i t :: decsT m (i + 1) r
noncomputable def modR (m : VT) : GR :=
  if ¬ m.lab.k = 36 then badR m.lab 12
  else match (decsT m 0 m.kids).find? (fun g => !decide (g.er = 0)) with
    | some g => ⟨z0T, g.pl, g.er⟩
    | none => ⟨.mk ⟨m.lab.k, m.lab.n, ⟨#[]⟩, 0, 0⟩ ((decsT m 0 m.kids).map GR.t), 0, 0⟩
end Go.Proofs.Ytjjnboenehomgaa.am
end
section
namespace Go.Proofs.Ytjjnboenehomgaa.am
open Go.ChangeShapes Go.WideShapes Go.ChangeAt Go.RowKit
open vt
set_option linter.unusedVariables false
set_option linter.unusedSimpArgs false
theorem td_got16 : td Try.prog 88 = some ⟨true, 8, 88, [.lit (.int .i64 0), .lit (.int .i64 0), .lit (.string ⟨#[]⟩), .nilS, .lit (.int .i64 0), .lit (.int .i64 0), .lit (.int .i64 0), .lit (.int .i64 0)], [(0, 6, true), (6, 1, false), (7, 1, false)], .struct⟩ := Eq.trans (by kernel_rfl) (Eq.refl _)
attribute [simp] td_got16
noncomputable abbrev vGr (g : GR) : AV := .v (.agg (ta g.t ++ [.pv (I g.pl), .pv (I g.er)]))
abbrev vII (p : Int × Int) : AV := .tup [.c (.pv (I p.1)), .c (.pv (I p.2))]
set_option maxRecDepth 100000 in
set_option maxHeartbeats 4000000 in
theorem rbad16_row (x : Lab) (l : List VT) (e : Int) : Row Try.prog 74 [vT (.mk x l), vI e] [] (vGr (badR x e)) [] := by
  unfold badR
  refine row_of Try.func74 rfl rfl (Nat.le_of_ble_eq_true rfl) ?_
  repeat (first | refine aw_seq ?_ | refine aw_skip ?_ | refine aw_block ?_ | refine aw_exit ?_ | refine aw_cond rfl (fun _ => ?_) (fun hb => absurd hb (by decide)) | refine aw_cond rfl (fun hb => absurd hb (by decide)) (fun _ => ?_) | (refine aw_reg (fun K hK => ?_); simp -implicitDefEqProofs; refine hK _ ?_) | (refine aw_drw mixd (fun K hK => ?_); simp -implicitDefEqProofs; refine hK _ _ (by rfl) ?_) | fail)
  refine aw_ret (fin_ret ?_); simp -implicitDefEqProofs [FinP, resV, resT] <;> try rfl
set_option maxRecDepth 100000 in
set_option maxHeartbeats 4000000 in
theorem rfrom_row (g : GV) : Row Try.prog 132 [vGt g] [] (vGr (fromG g)) [] := by
  obtain ⟨⟨ax, al⟩, ⟨bx, bl⟩, p, e⟩ := g
  unfold fromG
  refine row_of Try.func132 rfl rfl (Nat.le_of_ble_eq_true rfl) ?_
  repeat (first | refine aw_seq ?_ | refine aw_skip ?_ | refine aw_block ?_ | refine aw_exit ?_ | refine aw_cond rfl (fun _ => ?_) (fun hb => absurd hb (by decide)) | refine aw_cond rfl (fun hb => absurd hb (by decide)) (fun _ => ?_) | (refine aw_reg (fun K hK => ?_); simp -implicitDefEqProofs; refine hK _ ?_) | (refine aw_drw mixd (fun K hK => ?_); simp -implicitDefEqProofs; refine hK _ _ (by rfl) ?_) | fail)
  refine aw_ret (fin_ret ?_); simp -implicitDefEqProofs [FinP, resV, resT] <;> try rfl
set_option maxRecDepth 100000 in
set_option maxHeartbeats 4000000 in
theorem rparts_row (k : Int) : Row Try.prog 129 [vI k] [] (vII (prtN k)) [] := by
  unfold prtN
  by_cases c20 : k = 20
  · subst c20
    refine row_of Try.func129 rfl rfl (Nat.le_of_ble_eq_true rfl) ?_
    repeat (first | refine aw_seq ?_ | refine aw_skip ?_ | refine aw_block ?_ | refine aw_exit ?_ | refine aw_cond rfl (fun _ => ?_) (fun hb => absurd hb (by decide)) | refine aw_cond rfl (fun hb => absurd hb (by decide)) (fun _ => ?_) | (refine aw_reg (fun K hK => ?_); simp -implicitDefEqProofs; refine hK _ ?_) | (refine aw_drw mixd (fun K hK => ?_); simp -implicitDefEqProofs; refine hK _ _ (by rfl) ?_) | fail)
    refine aw_ret (fin_ret ?_); simp -implicitDefEqProofs [FinP, resV, resT] <;> try rfl
  by_cases c21 : k = 21
  · subst c21
    refine row_of Try.func129 rfl rfl (Nat.le_of_ble_eq_true rfl) ?_
    repeat (first | refine aw_seq ?_ | refine aw_skip ?_ | refine aw_block ?_ | refine aw_exit ?_ | refine aw_cond rfl (fun _ => ?_) (fun hb => absurd hb (by decide)) | refine aw_cond rfl (fun hb => absurd hb (by decide)) (fun _ => ?_) | (refine aw_reg (fun K hK => ?_); simp -implicitDefEqProofs; refine hK _ ?_) | (refine aw_drw mixd (fun K hK => ?_); simp -implicitDefEqProofs; refine hK _ _ (by rfl) ?_) | fail)
    refine aw_ret (fin_ret ?_); simp -implicitDefEqProofs [FinP, resV, resT] <;> try rfl
  by_cases c26 : k = 26
  · subst c26
    refine row_of Try.func129 rfl rfl (Nat.le_of_ble_eq_true rfl) ?_
    repeat (first | refine aw_seq ?_ | refine aw_skip ?_ | refine aw_block ?_ | refine aw_exit ?_ | refine aw_cond rfl (fun _ => ?_) (fun hb => absurd hb (by decide)) | refine aw_cond rfl (fun hb => absurd hb (by decide)) (fun _ => ?_) | (refine aw_reg (fun K hK => ?_); simp -implicitDefEqProofs; refine hK _ ?_) | (refine aw_drw mixd (fun K hK => ?_); simp -implicitDefEqProofs; refine hK _ _ (by rfl) ?_) | fail)
    refine aw_ret (fin_ret ?_); simp -implicitDefEqProofs [FinP, resV, resT] <;> try rfl
  by_cases c27 : k = 27
  · subst c27
    refine row_of Try.func129 rfl rfl (Nat.le_of_ble_eq_true rfl) ?_
    repeat (first | refine aw_seq ?_ | refine aw_skip ?_ | refine aw_block ?_ | refine aw_exit ?_ | refine aw_cond rfl (fun _ => ?_) (fun hb => absurd hb (by decide)) | refine aw_cond rfl (fun hb => absurd hb (by decide)) (fun _ => ?_) | (refine aw_reg (fun K hK => ?_); simp -implicitDefEqProofs; refine hK _ ?_) | (refine aw_drw mixd (fun K hK => ?_); simp -implicitDefEqProofs; refine hK _ _ (by rfl) ?_) | fail)
    refine aw_ret (fin_ret ?_); simp -implicitDefEqProofs [FinP, resV, resT] <;> try rfl
  by_cases c28 : k = 28
  · subst c28
    refine row_of Try.func129 rfl rfl (Nat.le_of_ble_eq_true rfl) ?_
    repeat (first | refine aw_seq ?_ | refine aw_skip ?_ | refine aw_block ?_ | refine aw_exit ?_ | refine aw_cond rfl (fun _ => ?_) (fun hb => absurd hb (by decide)) | refine aw_cond rfl (fun hb => absurd hb (by decide)) (fun _ => ?_) | (refine aw_reg (fun K hK => ?_); simp -implicitDefEqProofs; refine hK _ ?_) | (refine aw_drw mixd (fun K hK => ?_); simp -implicitDefEqProofs; refine hK _ _ (by rfl) ?_) | fail)
    refine aw_ret (fin_ret ?_); simp -implicitDefEqProofs [FinP, resV, resT] <;> try rfl
  by_cases c22 : k = 22
  · subst c22
    refine row_of Try.func129 rfl rfl (Nat.le_of_ble_eq_true rfl) ?_
    repeat (first | refine aw_seq ?_ | refine aw_skip ?_ | refine aw_block ?_ | refine aw_exit ?_ | refine aw_cond rfl (fun _ => ?_) (fun hb => absurd hb (by decide)) | refine aw_cond rfl (fun hb => absurd hb (by decide)) (fun _ => ?_) | (refine aw_reg (fun K hK => ?_); simp -implicitDefEqProofs; refine hK _ ?_) | (refine aw_drw mixd (fun K hK => ?_); simp -implicitDefEqProofs; refine hK _ _ (by rfl) ?_) | fail)
    refine aw_ret (fin_ret ?_); simp -implicitDefEqProofs [FinP, resV, resT] <;> try rfl
  by_cases c23 : k = 23
  · subst c23
    refine row_of Try.func129 rfl rfl (Nat.le_of_ble_eq_true rfl) ?_
    repeat (first | refine aw_seq ?_ | refine aw_skip ?_ | refine aw_block ?_ | refine aw_exit ?_ | refine aw_cond rfl (fun _ => ?_) (fun hb => absurd hb (by decide)) | refine aw_cond rfl (fun hb => absurd hb (by decide)) (fun _ => ?_) | (refine aw_reg (fun K hK => ?_); simp -implicitDefEqProofs; refine hK _ ?_) | (refine aw_drw mixd (fun K hK => ?_); simp -implicitDefEqProofs; refine hK _ _ (by rfl) ?_) | fail)
    refine aw_ret (fin_ret ?_); simp -implicitDefEqProofs [FinP, resV, resT] <;> try rfl
  by_cases c24 : k = 24
  · subst c24
    refine row_of Try.func129 rfl rfl (Nat.le_of_ble_eq_true rfl) ?_
    repeat (first | refine aw_seq ?_ | refine aw_skip ?_ | refine aw_block ?_ | refine aw_exit ?_ | refine aw_cond rfl (fun _ => ?_) (fun hb => absurd hb (by decide)) | refine aw_cond rfl (fun hb => absurd hb (by decide)) (fun _ => ?_) | (refine aw_reg (fun K hK => ?_); simp -implicitDefEqProofs; refine hK _ ?_) | (refine aw_drw mixd (fun K hK => ?_); simp -implicitDefEqProofs; refine hK _ _ (by rfl) ?_) | fail)
    refine aw_ret (fin_ret ?_); simp -implicitDefEqProofs [FinP, resV, resT] <;> try rfl
  by_cases c25 : k = 25
  · subst c25
    refine row_of Try.func129 rfl rfl (Nat.le_of_ble_eq_true rfl) ?_
    repeat (first | refine aw_seq ?_ | refine aw_skip ?_ | refine aw_block ?_ | refine aw_exit ?_ | refine aw_cond rfl (fun _ => ?_) (fun hb => absurd hb (by decide)) | refine aw_cond rfl (fun hb => absurd hb (by decide)) (fun _ => ?_) | (refine aw_reg (fun K hK => ?_); simp -implicitDefEqProofs; refine hK _ ?_) | (refine aw_drw mixd (fun K hK => ?_); simp -implicitDefEqProofs; refine hK _ _ (by rfl) ?_) | fail)
    refine aw_ret (fin_ret ?_); simp -implicitDefEqProofs [FinP, resV, resT] <;> try rfl
  refine row_of Try.func129 rfl rfl (Nat.le_of_ble_eq_true rfl) ?_
  repeat (first | refine aw_seq ?_ | refine aw_skip ?_ | refine aw_block ?_ | refine aw_exit ?_ | refine aw_cond rfl (fun _ => ?_) (fun hb => absurd hb (by decide)) | refine aw_cond rfl (fun hb => absurd hb (by decide)) (fun _ => ?_) | (refine aw_reg (fun K hK => ?_); simp -implicitDefEqProofs [c20, c21, c22, c23, c24, c25, c26, c27, c28]; refine hK _ ?_) | (refine aw_drw mixd (fun K hK => ?_); simp -implicitDefEqProofs [c20, c21, c22, c23, c24, c25, c26, c27, c28]; refine hK _ _ (by rfl) ?_) | fail)
  refine aw_ret (fin_ret ?_); simp -implicitDefEqProofs [FinP, resV, resT, c20, c21, c22, c23, c24, c25, c26, c27, c28] <;> try rfl
set_option maxRecDepth 100000 in
set_option maxHeartbeats 4000000 in
theorem ronly_row (m : VT) (L : List VT) (B : Nat) (hm : Fine B m) (hL : ∀ t ∈ L, Fine B t) (hB : B ≤ 400000) (hLl : L.length ≤ 1000000) (t : VT) (ht : in64 t) (hts : t.size ≤ 400000) (a b : Int) : Row Try.prog 130 [vT m, vLs L, vT t, vI a, vI b] [] (vGr (onlT m L t a b)) [] := by
  have hof := rof_row m L B hm hL hB hLl t ht hts
  obtain ⟨x, l⟩ := t
  have hba := rbad16_row x l 10
  unfold onlT
  have hfr := rfrom_row (ofT m L (.mk x l))
  rw [Tr.lab]
  obtain ⟨⟨⟨ax, al⟩, ⟨bx, bl⟩, p, e⟩, hG⟩ : ∃ g, ofT m L (.mk x l) = g := ⟨_, rfl⟩
  rw [hG] at hof hfr ⊢
  have i1 := ris_row (.mk ax al) a
  have i2 := ris_row (.mk ax al) b
  obtain ⟨p1, q1⟩ : ∃ p, isT (.mk ax al) a = p := ⟨_, rfl⟩
  obtain ⟨p2, q2⟩ : ∃ p, isT (.mk ax al) b = p := ⟨_, rfl⟩
  rw [q1] at i1 ⊢
  rw [q2] at i2 ⊢
  unfold badR at hba ⊢
  unfold fromG at hfr ⊢
  clear hG q1 q2
  obtain ⟨mx, ml⟩ := m
  by_cases he : e = 0
  · subst he
    cases p1 <;> cases p2
    · refine row_of Try.func130 rfl rfl (Nat.le_of_ble_eq_true rfl) ?_
      repeat' (first | refine aw_seq ?_ | refine aw_skip ?_ | refine aw_block ?_ | refine aw_exit ?_ | refine aw_cond rfl (fun _ => ?_) (fun hb => absurd hb (by decide)) | refine aw_cond rfl (fun hb => absurd hb (by decide)) (fun _ => ?_) | (refine aw_reg (fun K hK => ?_); simp -implicitDefEqProofs) | (refine aw_drw mixd (fun K hK => ?_); simp -implicitDefEqProofs) | refine hK _ ?_ | refine hK _ _ (by rfl) ?_ | (refine ar_call (cp hof ?_); simp -implicitDefEqProofs) | (refine ard_call (dp hof ?_); simp -implicitDefEqProofs) | (refine ar_call (cp i1 ?_); simp -implicitDefEqProofs) | (refine ard_call (dp i1 ?_); simp -implicitDefEqProofs) | (refine ar_call (cp i2 ?_); simp -implicitDefEqProofs) | (refine ard_call (dp i2 ?_); simp -implicitDefEqProofs) | (refine ar_call (cp hba ?_); simp -implicitDefEqProofs) | (refine ard_call (dp hba ?_); simp -implicitDefEqProofs) | (refine ar_call (cp hfr ?_); simp -implicitDefEqProofs) | (refine ard_call (dp hfr ?_); simp -implicitDefEqProofs) | fail)
      refine aw_ret (fin_ret ?_); simp -implicitDefEqProofs [FinP, resV, resT] <;> try rfl
    · refine row_of Try.func130 rfl rfl (Nat.le_of_ble_eq_true rfl) ?_
      repeat' (first | refine aw_seq ?_ | refine aw_skip ?_ | refine aw_block ?_ | refine aw_exit ?_ | refine aw_cond rfl (fun _ => ?_) (fun hb => absurd hb (by decide)) | refine aw_cond rfl (fun hb => absurd hb (by decide)) (fun _ => ?_) | (refine aw_reg (fun K hK => ?_); simp -implicitDefEqProofs) | (refine aw_drw mixd (fun K hK => ?_); simp -implicitDefEqProofs) | refine hK _ ?_ | refine hK _ _ (by rfl) ?_ | (refine ar_call (cp hof ?_); simp -implicitDefEqProofs) | (refine ard_call (dp hof ?_); simp -implicitDefEqProofs) | (refine ar_call (cp i1 ?_); simp -implicitDefEqProofs) | (refine ard_call (dp i1 ?_); simp -implicitDefEqProofs) | (refine ar_call (cp i2 ?_); simp -implicitDefEqProofs) | (refine ard_call (dp i2 ?_); simp -implicitDefEqProofs) | (refine ar_call (cp hba ?_); simp -implicitDefEqProofs) | (refine ard_call (dp hba ?_); simp -implicitDefEqProofs) | (refine ar_call (cp hfr ?_); simp -implicitDefEqProofs) | (refine ard_call (dp hfr ?_); simp -implicitDefEqProofs) | fail)
      refine aw_ret (fin_ret ?_); simp -implicitDefEqProofs [FinP, resV, resT] <;> try rfl
    · refine row_of Try.func130 rfl rfl (Nat.le_of_ble_eq_true rfl) ?_
      repeat' (first | refine aw_seq ?_ | refine aw_skip ?_ | refine aw_block ?_ | refine aw_exit ?_ | refine aw_cond rfl (fun _ => ?_) (fun hb => absurd hb (by decide)) | refine aw_cond rfl (fun hb => absurd hb (by decide)) (fun _ => ?_) | (refine aw_reg (fun K hK => ?_); simp -implicitDefEqProofs) | (refine aw_drw mixd (fun K hK => ?_); simp -implicitDefEqProofs) | refine hK _ ?_ | refine hK _ _ (by rfl) ?_ | (refine ar_call (cp hof ?_); simp -implicitDefEqProofs) | (refine ard_call (dp hof ?_); simp -implicitDefEqProofs) | (refine ar_call (cp i1 ?_); simp -implicitDefEqProofs) | (refine ard_call (dp i1 ?_); simp -implicitDefEqProofs) | (refine ar_call (cp i2 ?_); simp -implicitDefEqProofs) | (refine ard_call (dp i2 ?_); simp -implicitDefEqProofs) | (refine ar_call (cp hba ?_); simp -implicitDefEqProofs) | (refine ard_call (dp hba ?_); simp -implicitDefEqProofs) | (refine ar_call (cp hfr ?_); simp -implicitDefEqProofs) | (refine ard_call (dp hfr ?_); simp -implicitDefEqProofs) | fail)
      refine aw_ret (fin_ret ?_); simp -implicitDefEqProofs [FinP, resV, resT] <;> try rfl
    · refine row_of Try.func130 rfl rfl (Nat.le_of_ble_eq_true rfl) ?_
      repeat' (first | refine aw_seq ?_ | refine aw_skip ?_ | refine aw_block ?_ | refine aw_exit ?_ | refine aw_cond rfl (fun _ => ?_) (fun hb => absurd hb (by decide)) | refine aw_cond rfl (fun hb => absurd hb (by decide)) (fun _ => ?_) | (refine aw_reg (fun K hK => ?_); simp -implicitDefEqProofs) | (refine aw_drw mixd (fun K hK => ?_); simp -implicitDefEqProofs) | refine hK _ ?_ | refine hK _ _ (by rfl) ?_ | (refine ar_call (cp hof ?_); simp -implicitDefEqProofs) | (refine ard_call (dp hof ?_); simp -implicitDefEqProofs) | (refine ar_call (cp i1 ?_); simp -implicitDefEqProofs) | (refine ard_call (dp i1 ?_); simp -implicitDefEqProofs) | (refine ar_call (cp i2 ?_); simp -implicitDefEqProofs) | (refine ard_call (dp i2 ?_); simp -implicitDefEqProofs) | (refine ar_call (cp hba ?_); simp -implicitDefEqProofs) | (refine ard_call (dp hba ?_); simp -implicitDefEqProofs) | (refine ar_call (cp hfr ?_); simp -implicitDefEqProofs) | (refine ard_call (dp hfr ?_); simp -implicitDefEqProofs) | fail)
      refine aw_ret (fin_ret ?_); simp -implicitDefEqProofs [FinP, resV, resT] <;> try rfl
  · refine row_of Try.func130 rfl rfl (Nat.le_of_ble_eq_true rfl) ?_
    repeat' (first | refine aw_seq ?_ | refine aw_skip ?_ | refine aw_block ?_ | refine aw_exit ?_ | refine aw_cond rfl (fun _ => ?_) (fun hb => absurd hb (by decide)) | refine aw_cond rfl (fun hb => absurd hb (by decide)) (fun _ => ?_) | (refine aw_reg (fun K hK => ?_); simp -implicitDefEqProofs [he]) | (refine aw_drw mixd (fun K hK => ?_); simp -implicitDefEqProofs [he]) | refine hK _ ?_ | refine hK _ _ (by rfl) ?_ | (refine ar_call (cp hof ?_); simp -implicitDefEqProofs [he]) | (refine ard_call (dp hof ?_); simp -implicitDefEqProofs [he]) | (refine ar_call (cp i1 ?_); simp -implicitDefEqProofs [he]) | (refine ard_call (dp i1 ?_); simp -implicitDefEqProofs [he]) | (refine ar_call (cp i2 ?_); simp -implicitDefEqProofs [he]) | (refine ard_call (dp i2 ?_); simp -implicitDefEqProofs [he]) | (refine ar_call (cp hba ?_); simp -implicitDefEqProofs [he]) | (refine ard_call (dp hba ?_); simp -implicitDefEqProofs [he]) | (refine ar_call (cp hfr ?_); simp -implicitDefEqProofs [he]) | (refine ard_call (dp hfr ?_); simp -implicitDefEqProofs [he]) | fail)
    refine aw_ret (fin_ret ?_); simp -implicitDefEqProofs [FinP, resV, resT, he] <;> try rfl
set_option maxRecDepth 100000 in
set_option maxHeartbeats 4000000 in
theorem rbrings_row (m : VT) (L : List VT) (B : Nat) (hm : Fine B m) (hL : ∀ t ∈ L, Fine B t) (hB : B ≤ 400000) (hLl : L.length ≤ 900000) (t : VT) (ht : in64 t) (hts : t.size ≤ 400000) : Row Try.prog 117 [vT m, vLs L, vT t] [] (vLs (brgT m L t)) [] := by
  obtain ⟨x, l⟩ := t
  unfold brgT
  rw [Tr.lab, Tr.kids]
  have b1 : (L.length + 1) * 72 ≤ 140737488355328 := by omega
  have b2 : L.length + 1 ≤ 140737488355328 := by omega
  have b3 : L.length * 72 ≤ 140737488355328 := by omega
  have b4 : L.length ≤ 140737488355328 := by omega
  by_cases h1 : l.length = 1; rotate_left
  · rw [if_neg (fun h => h1 h.2), if_neg (fun h => h1 h.2)]
    have h1' : ¬ (l.length : Int) = 1 := by omega
    obtain ⟨mx, ml⟩ := m
    by_cases c20 : x.k = 20
    · refine row_of Try.func117 rfl rfl (Nat.le_of_ble_eq_true rfl) ?_
      repeat (first | refine aw_seq ?_ | refine aw_skip ?_ | refine aw_block ?_ | refine aw_exit ?_ | refine aw_cond rfl (fun _ => ?_) (fun hb => absurd hb (by decide)) | refine aw_cond rfl (fun hb => absurd hb (by decide)) (fun _ => ?_) | (refine aw_reg (fun K hK => ?_); simp -implicitDefEqProofs [c20, h1, h1']; refine hK _ ?_) | (refine aw_drw mixd (fun K hK => ?_); simp -implicitDefEqProofs [c20, h1, h1']; refine hK _ _ (by rfl) ?_) | fail)
      refine aw_ret (fin_ret ?_); simp -implicitDefEqProofs [FinP, resV, resT] <;> try rfl
    · by_cases c21 : x.k = 21
      · refine row_of Try.func117 rfl rfl (Nat.le_of_ble_eq_true rfl) ?_
        repeat (first | refine aw_seq ?_ | refine aw_skip ?_ | refine aw_block ?_ | refine aw_exit ?_ | refine aw_cond rfl (fun _ => ?_) (fun hb => absurd hb (by decide)) | refine aw_cond rfl (fun hb => absurd hb (by decide)) (fun _ => ?_) | (refine aw_reg (fun K hK => ?_); simp -implicitDefEqProofs [c21, h1, h1']; refine hK _ ?_) | (refine aw_drw mixd (fun K hK => ?_); simp -implicitDefEqProofs [c21, h1, h1']; refine hK _ _ (by rfl) ?_) | fail)
        refine aw_ret (fin_ret ?_); simp -implicitDefEqProofs [FinP, resV, resT] <;> try rfl
      · refine row_of Try.func117 rfl rfl (Nat.le_of_ble_eq_true rfl) ?_
        repeat (first | refine aw_seq ?_ | refine aw_skip ?_ | refine aw_block ?_ | refine aw_exit ?_ | refine aw_cond rfl (fun _ => ?_) (fun hb => absurd hb (by decide)) | refine aw_cond rfl (fun hb => absurd hb (by decide)) (fun _ => ?_) | (refine aw_reg (fun K hK => ?_); simp -implicitDefEqProofs [c20, c21, h1, h1']; refine hK _ ?_) | (refine aw_drw mixd (fun K hK => ?_); simp -implicitDefEqProofs [c20, c21, h1, h1']; refine hK _ _ (by rfl) ?_) | fail)
        refine aw_ret (fin_ret ?_); simp -implicitDefEqProofs [FinP, resV, resT] <;> try rfl
  obtain ⟨⟨ax, al⟩, rfl⟩ := one_of h1
  have hsz1 := Tr.size_at (x := x) (l := [Tr.mk ax al]) (i := 0) rfl
  have hof := rof_row m L B hm hL hB (by omega) (.mk ax al) (((Tr.all_mk _ _ _).1 ht).2 _ (by simp)) (by omega)
  by_cases c20 : x.k = 20
  · rw [if_pos ⟨c20, h1⟩]
    rw [show [Tr.mk ax al].getD 0 z0T = .mk ax al from rfl]
    obtain ⟨⟨⟨cx, cl⟩, ⟨bx, bl⟩, p, e⟩, hG⟩ : ∃ g, ofT m L (.mk ax al) = g := ⟨_, rfl⟩
    rw [hG] at hof ⊢
    clear hG
    obtain ⟨mx, ml⟩ := m
    refine row_of Try.func117 rfl rfl (Nat.le_of_ble_eq_true rfl) ?_
    repeat' (first | refine aw_seq ?_ | refine aw_skip ?_ | refine aw_block ?_ | refine aw_exit ?_ | refine aw_cond rfl (fun _ => ?_) (fun hb => absurd hb (by decide)) | refine aw_cond rfl (fun hb => absurd hb (by decide)) (fun _ => ?_) | (refine aw_reg (fun K hK => ?_); simp -implicitDefEqProofs [c20, b1, b2, b3, b4]) | (refine aw_drw mixd (fun K hK => ?_); simp -implicitDefEqProofs [c20, b1, b2, b3, b4]) | refine hK _ ?_ | refine hK _ _ (by rfl) ?_ | (refine ar_call (cp hof ?_); simp -implicitDefEqProofs [c20, b1, b2, b3, b4]) | (refine ard_call (dp hof ?_); simp -implicitDefEqProofs [c20, b1, b2, b3, b4]) | fail)
    refine aw_ret (fin_ret ?_); simp -implicitDefEqProofs [FinP, resV, resT] <;> try rfl
  · rw [if_neg (fun h => c20 h.1)]
    clear hof
    by_cases c21 : x.k = 21
    · rw [if_pos ⟨c21, h1⟩]
      obtain ⟨mx, ml⟩ := m
      refine row_of Try.func117 rfl rfl (Nat.le_of_ble_eq_true rfl) ?_
      repeat (first | refine aw_seq ?_ | refine aw_skip ?_ | refine aw_block ?_ | refine aw_exit ?_ | refine aw_cond rfl (fun _ => ?_) (fun hb => absurd hb (by decide)) | refine aw_cond rfl (fun hb => absurd hb (by decide)) (fun _ => ?_) | (refine aw_reg (fun K hK => ?_); simp -implicitDefEqProofs [c21, b1, b2, b3, b4]; refine hK _ ?_) | (refine aw_drw mixd (fun K hK => ?_); simp -implicitDefEqProofs [c21, b1, b2, b3, b4]; refine hK _ _ (by rfl) ?_) | fail)
      refine aw_ret (fin_ret ?_); simp -implicitDefEqProofs [FinP, resV, resT] <;> try rfl
    · rw [if_neg (fun h => c21 h.1)]
      obtain ⟨mx, ml⟩ := m
      refine row_of Try.func117 rfl rfl (Nat.le_of_ble_eq_true rfl) ?_
      repeat (first | refine aw_seq ?_ | refine aw_skip ?_ | refine aw_block ?_ | refine aw_exit ?_ | refine aw_cond rfl (fun _ => ?_) (fun hb => absurd hb (by decide)) | refine aw_cond rfl (fun hb => absurd hb (by decide)) (fun _ => ?_) | (refine aw_reg (fun K hK => ?_); simp -implicitDefEqProofs [c20, c21]; refine hK _ ?_) | (refine aw_drw mixd (fun K hK => ?_); simp -implicitDefEqProofs [c20, c21]; refine hK _ _ (by rfl) ?_) | fail)
      refine aw_ret (fin_ret ?_); simp -implicitDefEqProofs [FinP, resV, resT] <;> try rfl
end Go.Proofs.Ytjjnboenehomgaa.am
end
