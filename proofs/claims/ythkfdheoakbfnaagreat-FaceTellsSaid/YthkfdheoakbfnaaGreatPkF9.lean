import Derived.Test.YthkfdheoakbfnaaGreatPkF8
import Derived.Test.YthkfdheoakbfnaaGreatPkF5
import Derived.Scope
import Derived.Test.YthkfdheoakbfnaaGreatPkF4
set_option maxRecDepth 100000
set_option maxHeartbeats 4000000
section
namespace Go.Proofs.YthkfdheoakbfnaaGreat.am
open Go.ChangeShapes Go.WideShapes Go.ChangeAt Go.RowKit
open vt
set_option linter.unusedVariables false
set_option linter.unusedSimpArgs false
theorem a3b {α : Type} {f g : α → Nat} : ∀ {l : List α}, (∀ y ∈ l, f y ≤ g y) → (l.map f).sum ≤ (l.map g).sum
  | [], _ => Nat.le_refl _
  | y :: l, h => by
    have h1 := h y (by simp)
    have h2 := a3b (f := f) (g := g) (l := l) (fun z hz => h z (by simp [hz]))
    simp only [List.map_cons, List.sum_cons]
    omega
theorem a4g {α : Type} {p : α → Bool} {l : List α} {k : Nat} {a : α} (ha : l[k]? = some a) (hp : p a = true) (hno : ∀ x ∈ l.take k, p x = false) : l.find? p = some a := by
  obtain ⟨hk, ha'⟩ := List.getElem?_eq_some_iff.1 ha
  have e : l = l.take k ++ a :: l.drop (k + 1) := by rw [← ha', ← List.drop_eq_getElem_cons hk, List.take_append_drop]
  rw [e, List.find?_append, List.find?_eq_none.2 (fun x hx => by rw [hno x hx]; simp), List.find?_cons, hp]
  rfl
theorem a4n {x : Lab} {l : List VT} {y : VT} (h : y ∈ l) : y.size < (Tr.mk x l).size := by
  obtain ⟨i, hi⟩ := List.mem_iff_getElem?.1 h
  exact Tr.size_at hi
structure GV where
  ty : VT
  fo : VT
  pl : Int
  er : Int
noncomputable abbrev vGt (g : GV) : AV := vGot g.ty g.fo g.pl g.er
noncomputable def c08 (x : Lab) (e : Int) : GV := ⟨z0T, z0T, x.f, e⟩
noncomputable def ofC (m : VT) (L : List VT) (x : Lab) (l : List VT) (gs : List GV) : GV :=
  if z5 x l.length = false then c08 x 12
  else if namB m L.length x = false then c08 x 8
  else if l.length = 0 ∧ ¬ x.k = 16 then ⟨aloT m L x l, .mk ⟨x.k, x.n, ⟨#[]⟩, 0, 0⟩ [], 0, 0⟩
  else match gs.find? (fun g => !decide (g.er = 0)) with
    | some g => g
    | none => if (u7 m x (gs.map GV.ty)).2.2 = 0 then ⟨(u7 m x (gs.map GV.ty)).1, .mk ⟨x.k, (u7 m x (gs.map GV.ty)).2.1, ⟨#[]⟩, 0, 0⟩ (gs.map GV.fo), 0, 0⟩ else c08 x (u7 m x (gs.map GV.ty)).2.2
noncomputable def ofT (m : VT) (L : List VT) (t : VT) : GV := Tr.fold (ofC m L) t
theorem b8a (m : VT) (L : List VT) (x : Lab) (l : List VT) : ofT m L (.mk x l) = ofC m L x l (l.map (ofT m L)) := Tr.fold_mk _ x l
theorem b5i (op : Int) (a b : VT) : b5h op a b = tyT 1 ∨ b5h op a b = tyT 2 ∨ b5h op a b = z0T := by
  unfold b5h
  split
  · exact .inr (.inl rfl)
  · split
    · exact .inr (.inl rfl)
    · split
      · exact .inl rfl
      · exact .inr (.inr rfl)
theorem b4r (t : VT) : a5c t = tyT 1 ∨ a5c t = tyT 2 ∨ a5c t = z0T := by
  unfold a5c
  split
  · exact .inl rfl
  · split
    · exact .inr (.inl rfl)
    · exact .inr (.inr rfl)
theorem b7m {m : VT} (n : Nat) : (m.kids.getD n z0T).size ≤ m.size := by
  by_cases h : n < m.kids.length
  · have : m.kids.getD n z0T ∈ m.kids := by simp [List.getD, h]
    have := p7 this
    omega
  · rw [show m.kids.getD n z0T = z0T by simp [List.getD, h]]
    have := Tr.size_pos m
    simp [Tr.size_mk]; omega
theorem c54 {m : VT} (hm : t7 m) (n : Nat) : t7 (m.kids.getD n z0T) := by
  by_cases h : n < m.kids.length
  · have : m.kids.getD n z0T ∈ m.kids := by simp [List.getD, h]
    exact a4o hm this
  · rw [show m.kids.getD n z0T = z0T by simp [List.getD, h]]
    exact b98
def a0d (B : Nat) (t : VT) : Prop := t7 t ∧ t.size ≤ B
theorem a0d.le {B C : Nat} {t : VT} (h : a0d B t) (hBC : B ≤ C) : a0d C t := ⟨h.1, Nat.le_trans h.2 hBC⟩
theorem a21 {B : Nat} (h : 1 ≤ B) : a0d B z0T := ⟨b98, by simp [Tr.size_mk]; exact h⟩
theorem a20 {B : Nat} (h : 1 ≤ B) {k : Int} (hk : 0 ≤ k ∧ k ≤ 9) : a0d B (tyT k) := ⟨tyT_ok k hk, by rw [c2t]; exact h⟩
theorem b2v {B : Nat} (h : 1 ≤ B) (t : VT) : a0d B (a5c t) := by
  rcases b4r t with e | e | e <;> rw [e]
  · exact a20 h (by omega)
  · exact a20 h (by omega)
  · exact a21 h
theorem a0d.bare {B : Nat} {t : VT} (h : a0d B t) : a0d B (a2t t) := ⟨c5i t h.1, by rw [a36]; exact h.2⟩
theorem a0d.kid {B : Nat} {t : VT} (h : a0d B t) (n : Nat) : a0d B (t.kids.getD n z0T) := ⟨c54 h.1 n, Nat.le_trans (b7m n) h.2⟩
theorem b6k {m : VT} {L : List VT} {B : Nat} (hm : a0d B m) (hL : ∀ t ∈ L, a0d B t) (x : Lab) (l : List VT) : a0d B (aloT m L x l) := by
  have hB : 1 ≤ B := Nat.le_trans (Tr.size_pos m) hm.2
  unfold aloT
  split
  · refine a0d.bare ?_
    by_cases h : L.length - 1 - x.n.toNat < L.length
    · exact hL _ (by simp [List.getD, h])
    · rw [show L.getD (L.length - 1 - x.n.toNat) z0T = z0T by simp [List.getD, h]]
      exact a21 hB
  · split
    · exact b2v hB _
    · split
      · exact ((hm.kid _).kid _).bare
      · split
        · exact a20 hB (by omega)
        · exact b2v hB _
theorem b5a {m : VT} {B : Nat} (hm : a0d B m) {x : Lab} (hx : x.ok) {p : List VT} (hp : ∀ a ∈ p, a0d B a) (hpl : p.length ≤ 1000000) (hms : m.size ≤ 1000000) : a0d (B + 1) (u7 m x p).1 ∧ (-9223372036854775808 ≤ (u7 m x p).2.1 ∧ (u7 m x p).2.1 ≤ 9223372036854775807) := by
  have hB : 1 ≤ B := Nat.le_trans (Tr.size_pos m) hm.2
  have g0 : a0d B (p.getD 0 z0T) := by
    by_cases h : 0 < p.length
    · exact hp _ (by simp [List.getD, h])
    · rw [show p.getD 0 z0T = z0T by simp [List.getD, h]]
      exact a21 hB
  have hn := hx.2.1
  have hz : a0d (B + 1) z0T := a21 (by omega)
  unfold u7
  split
  · refine ⟨?_, hn⟩
    rcases b5i x.n (p.getD 0 z0T) (p.getD 1 z0T) with e | e | e <;> rw [e]
    · exact a20 (by omega) (by omega)
    · exact a20 (by omega) (by omega)
    · exact hz
  · split
    · exact ⟨g0.le (by omega), hn⟩
    · split
      · exact ⟨(g0.kid 0).le (by omega), hn⟩
      · split
        · split
          · exact ⟨hz, by constructor <;> (dsimp only; omega)⟩
          · rename_i h0
            refine ⟨a0d.bare ⟨c5z hm.1 _, Nat.le_trans (a9d _ _) (Nat.le_trans hm.2 (by omega))⟩, ?_, a88 hms hx⟩
            dsimp only; omega
        · split
          · exact ⟨⟨(Tr.all_mk _ _ _).2 ⟨⟨by simp, hn, by simp, by simp⟩, fun y hy => by simp at hy⟩, by simp [Tr.size_mk]⟩, hn⟩
          · split
            · exact ⟨(((hm.kid _).kid _).bare).le (by omega), hn⟩
            · split
              · exact ⟨hz, by constructor <;> (dsimp only; omega)⟩
              · split
                · split
                  · exact ⟨hz, by constructor <;> (dsimp only; omega)⟩
                  · refine ⟨⟨(Tr.all_mk _ _ _).2 ⟨⟨by simp, by constructor <;> (dsimp only; omega), by simp, by simp⟩, fun y hy => by simp at hy; subst hy; exact g0.1⟩, ?_⟩, hn⟩
                    have := g0.2
                    rw [Tr.size_mk]; simp only [List.map_cons, List.map_nil, List.sum_cons, List.sum_nil]; omega
                · exact ⟨hz, by constructor <;> (dsimp only; omega)⟩
structure OfOk (B : Nat) (t : VT) (g : GV) : Prop where
  ty : a0d (B + t.size) g.ty
  fo : a0d t.size g.fo
  pl : -9223372036854775808 ≤ g.pl ∧ g.pl ≤ 9223372036854775807
theorem b03 {B : Nat} {x : Lab} {l : List VT} (hx : x.ok) (e : Int) : OfOk B (.mk x l) (c08 x e) :=
  ⟨a21 (by have := Tr.size_pos (Tr.mk x l); omega), a21 (Tr.size_pos _), hx.2.2.1⟩
theorem a9l {m : VT} {L : List VT} {B : Nat} (hm : a0d B m) (hms : m.size ≤ 1000000) (hL : ∀ t ∈ L, a0d B t) (t : VT) : t7 t → t.size ≤ 1000000 → OfOk B t (ofT m L t) := by
  induction t using Tr.ind with
  | h x l ih =>
  intro ht hts
  obtain ⟨hx, hl⟩ := (Tr.all_mk _ x l).1 ht
  have hlen := Tr.len_size (x := x) (l := l)
  rw [b8a]
  unfold ofC
  have hs1 : (Tr.mk x ([] : List VT)).size ≤ (Tr.mk x l).size := by simp [Tr.size_mk]
  split
  · exact b03 hx _
  · split
    · exact b03 hx _
    · split
      · exact ⟨(b6k hm hL x l).le (by omega), ⟨(Tr.all_mk _ _ _).2 ⟨⟨hx.1, hx.2.1, by simp, by simp⟩, fun y hy => by simp at hy⟩, by rw [Tr.size_mk] at hs1 ⊢; exact hs1⟩, by simp⟩
      · split
        · rename_i g hg
          obtain ⟨y, hy, rfl⟩ := List.mem_map.1 (List.mem_of_find?_eq_some hg)
          have hys := a4n (x := x) hy
          have := ih y hy (hl y hy) (by omega)
          exact ⟨this.ty.le (by omega), this.fo.le (by omega), this.pl⟩
        · have hk : ∀ a ∈ (l.map (ofT m L)).map GV.ty, a0d (B + ((Tr.mk x l).size - 1)) a := by
            intro a ha
            rw [List.map_map] at ha
            obtain ⟨y, hy, rfl⟩ := List.mem_map.1 ha
            have hys := a4n (x := x) hy
            exact (ih y hy (hl y hy) (by omega)).ty.le (by omega)
          have hp := Tr.size_pos (Tr.mk x l)
          have hr := b5a (m := m) (B := B + ((Tr.mk x l).size - 1)) (hm.le (by omega)) hx hk (by simp; omega) hms
          split
          · refine ⟨hr.1.le (by omega), ⟨(Tr.all_mk _ _ _).2 ⟨⟨hx.1, hr.2, by simp, by simp⟩, fun a ha => ?_⟩, ?_⟩, by simp⟩
            · rw [List.map_map] at ha
              obtain ⟨y, hy, rfl⟩ := List.mem_map.1 ha
              have hys := a4n (x := x) hy
              exact (ih y hy (hl y hy) (by omega)).fo.1
            · rw [Tr.size_mk, Tr.size_mk, List.map_map, List.map_map]
              refine Nat.add_le_add_left (a3b (fun y hy => ?_)) 1
              have hys := a4n (x := x) hy
              exact (ih y hy (hl y hy) (by omega)).fo.2
          · exact b03 hx _
theorem c6f {m : VT} {n : Nat} {x : Lab} (h : namB m n x = true) : (x.k = 7 → 0 ≤ x.n ∧ x.n < n) ∧ (x.k = 8 ∨ x.k = 9 → 0 ≤ x.n ∧ ∃ dx e, m.kids[x.n.toNat]? = some (.mk dx [e])) ∧ (x.k = 15 → 0 ≤ x.n ∧ ∃ d, m.kids[x.n.toNat]? = some d) ∧ (x.k = 16 → 0 ≤ x.n ∧ ∃ dx a b c, m.kids[x.n.toNat]? = some (.mk dx [a, b, c])) := by
  have hb : ∀ k, a3t m x.n k = true → 0 ≤ x.n ∧ ∃ d, m.kids[x.n.toNat]? = some d ∧ c3j d k = true := by
    intro k hk
    unfold a3t at hk
    split at hk
    · cases hk
    · split at hk
      · cases hk
      · rename_i d hd
        exact ⟨by omega, d, hd, by simp at hk; exact hk.2⟩
  unfold namB at h
  refine ⟨fun e => ?_, fun e => ?_, fun e => ?_, fun e => ?_⟩
  · rw [if_pos e] at h; simpa using h
  · rcases e with e | e
    · rw [if_neg (by omega), if_pos e] at h
      obtain ⟨h0, ⟨dx, dl⟩, hd, hh⟩ := hb _ h
      unfold c3j at hh
      simp [Tr.kids] at hh
      obtain ⟨a, rfl⟩ := w6 (l := dl) (of_decide_eq_true hh.1)
      exact ⟨h0, dx, a, hd⟩
    · rw [if_neg (by omega), if_neg (by omega), if_pos e] at h
      obtain ⟨h0, ⟨dx, dl⟩, hd, hh⟩ := hb _ h
      unfold c3j at hh
      simp [Tr.kids] at hh
      obtain ⟨a, rfl⟩ := w6 (l := dl) (of_decide_eq_true hh)
      exact ⟨h0, dx, a, hd⟩
  · rw [if_neg (by omega), if_neg (by omega), if_neg (by omega), if_pos e] at h
    obtain ⟨h0, d, hd, _⟩ := hb _ h
    exact ⟨h0, d, hd⟩
  · rw [if_neg (by omega), if_neg (by omega), if_neg (by omega), if_neg (by omega), if_pos e] at h
    obtain ⟨h0, ⟨dx, dl⟩, hd, hh⟩ := hb _ h
    unfold c3j at hh
    simp [Tr.kids] at hh
    obtain ⟨a, b, c, rfl⟩ := a72 (l := dl) (of_decide_eq_true hh)
    exact ⟨h0, dx, a, b, c, hd⟩
theorem a7x (m : VT) (L : List VT) (B : Nat) (hm : a0d B m) (hL : ∀ t ∈ L, a0d B t) (hB : B ≤ 400000) (hLl : L.length ≤ 1000000) (t : VT) : t7 t → t.size ≤ 400000 → Row Tryz.prog 87 [vT m, vLs L, vT t] [] (vGt (ofT m L t)) [] := by
  induction t using Tr.ind with
  | h x l ih =>
  intro ht hts
  have hok := a9l hm (by have := hm.2; omega) hL (.mk x l) ht (by omega)
  obtain ⟨hx, hl⟩ := (Tr.all_mk _ x l).1 ht
  have hlen := Tr.len_size (x := x) (l := l)
  have hms := hm.2
  have hsha := b82 x l
  have hnam := c2c m (by omega) L x l hx
  have hb12 := a7t x l 12
  have hb8 := a7t x l 8
  rw [b8a]
  unfold ofC
  cases hS : z5 x l.length with
  | false =>
    rw [hS] at hsha
    rw [if_pos rfl]
    unfold c08
    clear ih hok hnam hb8
    obtain ⟨mx, ml⟩ := m
    refine f6 Tryz.func87 rfl rfl (Nat.le_of_ble_eq_true rfl) ?_
    repeat' (first | refine d4 ?_ | refine b8 ?_ | refine b7 ?_ | refine b9 ?_ | refine f5 rfl ?_ | refine d8 rfl ?_ | ((first | refine c5 (fun K hK => ?_) | refine d5 f8 (fun K hK => ?_) | refine a9 (cp hsha ?_) | refine a8 (dp hsha ?_) | refine a9 (cp hb12 ?_) | refine a8 (dp hb12 ?_) | fail); simp -implicitDefEqProofs) | refine hK _ ?_ | refine hK _ _ (by rfl) ?_ | fail)
    refine d7 (d6 ?_); simp -implicitDefEqProofs [g8, f9, g7] <;> try rfl
  | true =>
  rw [hS] at hsha
  rw [if_neg (by simp)]
  cases hN : namB m L.length x with
  | false =>
    rw [hN] at hnam
    rw [if_pos rfl]
    unfold c08
    clear ih hok hb12
    obtain ⟨mx, ml⟩ := m
    refine f6 Tryz.func87 rfl rfl (Nat.le_of_ble_eq_true rfl) ?_
    repeat' (first | refine d4 ?_ | refine b8 ?_ | refine b7 ?_ | refine b9 ?_ | refine f5 rfl ?_ | refine d8 rfl ?_ | ((first | refine c5 (fun K hK => ?_) | refine d5 f8 (fun K hK => ?_) | refine a9 (cp hsha ?_) | refine a8 (dp hsha ?_) | refine a9 (cp hnam ?_) | refine a8 (dp hnam ?_) | refine a9 (cp hb8 ?_) | refine a8 (dp hb8 ?_) | fail); simp -implicitDefEqProofs) | refine hK _ ?_ | refine hK _ _ (by rfl) ?_ | fail)
    refine d7 (d6 ?_); simp -implicitDefEqProofs [g8, f9, g7] <;> try rfl
  | true =>
  rw [hN] at hnam
  rw [if_neg (by simp)]
  clear hb12 hb8
  obtain ⟨n7, n89, n15, n16⟩ := c6f hN
  by_cases h0 : l.length = 0 ∧ ¬ x.k = 16
  · rw [if_pos h0]
    obtain ⟨l0, k16⟩ := h0
    have : l = [] := List.eq_nil_of_length_eq_zero l0
    subst this
    have hal := b4x m (by omega) L (fun t h => by have := (hL t h).2; omega) hLl x [] n7 n89
    obtain ⟨⟨bx, bl⟩, hbb⟩ : ∃ b, aloT m L x [] = b := ⟨_, rfl⟩
    rw [hbb] at hal ⊢
    clear ih hok hbb
    obtain ⟨mx, ml⟩ := m
    refine f6 Tryz.func87 rfl rfl (Nat.le_of_ble_eq_true rfl) ?_
    repeat' (first | refine d4 ?_ | refine b8 ?_ | refine b7 ?_ | refine b9 ?_ | refine f5 rfl ?_ | refine d8 rfl ?_ | ((first | refine c5 (fun K hK => ?_) | refine d5 f8 (fun K hK => ?_) | refine a9 (cp hsha ?_) | refine a8 (dp hsha ?_) | refine a9 (cp hnam ?_) | refine a8 (dp hnam ?_) | refine a9 (cp hal ?_) | refine a8 (dp hal ?_) | fail); simp -implicitDefEqProofs [k16]) | refine hK _ ?_ | refine hK _ _ (by rfl) ?_ | fail)
    refine d7 (d6 ?_); simp -implicitDefEqProofs [g8, f9, g7] <;> try rfl
  rw [if_neg h0]
  have hgo : ¬ ((l.length : Int) = 0 ∧ ¬ x.k = 16) := fun h => h0 ⟨by omega, h.2⟩
  have hgl : ∀ a ∈ (l.map (ofT m L)).map GV.ty, t7 a ∧ a.size ≤ 900000 := by
    intro a ha
    rw [List.map_map] at ha
    obtain ⟨y, hy, rfl⟩ := List.mem_map.1 ha
    have hys := a4n (x := x) hy
    have := (a9l hm (by omega) hL y (hl y hy) (by omega)).ty
    exact ⟨this.1, by have := this.2; show (ofT m L y).ty.size ≤ _; omega⟩
  have hru := b81 m hm.1 (by omega) x l hx ((l.map (ofT m L)).map GV.ty) hgl (by simp; omega) (by simpa using hS) n15 n16
  obtain ⟨⟨⟨rx, rl⟩, rn, re⟩, hR⟩ : ∃ R, u7 m x ((l.map (ofT m L)).map GV.ty) = R := ⟨_, rfl⟩
  rw [hR] at hru ⊢
  have hbe := a7t x l re
  obtain ⟨F, hF⟩ : ∃ F, (match (l.map (ofT m L)).find? (fun g => !decide (g.er = 0)) with
    | some g => g
    | none => if re = 0 then ⟨.mk rx rl, .mk ⟨x.k, rn, ⟨#[]⟩, 0, 0⟩ ((l.map (ofT m L)).map GV.fo), 0, 0⟩ else c08 x re : GV) = F := ⟨_, rfl⟩
  dsimp only at hF ⊢
  rw [hF]
  clear hR hok
  have hat : ∀ (k : Nat) ax al, l[k]? = some (.mk ax al) → ¬ (ofT m L (.mk ax al)).er = 0 → (∀ y ∈ l.take k, (ofT m L y).er = 0) → F = ofT m L (.mk ax al) := by
    intro k ax al ha he hno
    rw [← hF, a4g (k := k) (a := ofT m L (.mk ax al)) (by rw [List.getElem?_map, ha]; rfl) (by simpa using he) (fun g hg => by
      rw [← List.map_take] at hg
      obtain ⟨y, hy, rfl⟩ := List.mem_map.1 hg
      simpa using hno y hy)]
  have hend : (∀ y ∈ l, (ofT m L y).er = 0) → F = if re = 0 then ⟨.mk rx rl, .mk ⟨x.k, rn, ⟨#[]⟩, 0, 0⟩ ((l.map (ofT m L)).map GV.fo), 0, 0⟩ else c08 x re := by
    intro hno
    rw [← hF, List.find?_eq_none.2 (fun g hg => by
      obtain ⟨y, hy, rfl⟩ := List.mem_map.1 hg
      simpa using hno y hy)]
  clear hF
  have hor : (∃ _ : ¬ l.length = 0, ¬ (l.length : Int) = 0 ∧ True) ∨ (∃ _ : l.length = 0, (l.length : Int) = 0 ∧ x.k = 16) := by
    rcases Classical.em (l.length = 0) with h | h
    · exact .inr ⟨h, by omega, Classical.byContradiction fun k => h0 ⟨h, k⟩⟩
    · exact .inl ⟨h, by omega, trivial⟩
  clear h0 hgo
  obtain ⟨Ty, hTy⟩ : ∃ Ty : List VT, (l.map (ofT m L)).map GV.ty = Ty := ⟨_, rfl⟩
  have hgt : ∀ k, ((l.take k).map (ofT m L)).map GV.ty = Ty.take k := fun k => by rw [← hTy, List.map_take, List.map_take]
  obtain ⟨Fo, hFo⟩ : ∃ Fo : List VT, (l.map (ofT m L)).map GV.fo = Fo := ⟨_, rfl⟩
  have hgf : ∀ k, ((l.take k).map (ofT m L)).map GV.fo = Fo.take k := fun k => by rw [← hFo, List.map_take, List.map_take]
  have hTl : Ty.length = l.length := by rw [← hTy]; simp
  have hFl : Fo.length = l.length := by rw [← hFo]; simp
  have hTk : ∀ k y, l[k]? = some y → Ty.take (k + 1) = Ty.take k ++ [(ofT m L y).ty] := fun k y h => by
    rw [List.take_add_one, ← hTy, List.getElem?_map, List.getElem?_map, h]; rfl
  have hFk : ∀ k y, l[k]? = some y → Fo.take (k + 1) = Fo.take k ++ [(ofT m L y).fo] := fun k y h => by
    rw [List.take_add_one, ← hFo, List.getElem?_map, List.getElem?_map, h]; rfl
  rw [hTy] at hru
  rw [hFo] at hend
  clear hTy hFo hgt hgf hgl
  obtain ⟨mx, ml⟩ := m
  rcases hor with ⟨l0, l0', k16⟩ | ⟨l0, l0', k16⟩
  all_goals (
    refine f6 Tryz.func87 rfl rfl (Nat.le_of_ble_eq_true rfl) ?_
    repeat' (first | refine d4 ?_ | refine b8 ?_ | refine b7 ?_ | refine b9 ?_ | refine f5 rfl ?_ | refine d8 rfl ?_ | ((first | refine c5 (fun K hK => ?_) | refine d5 f8 (fun K hK => ?_) | refine a9 (cp hsha ?_) | refine a8 (dp hsha ?_) | refine a9 (cp hnam ?_) | refine a8 (dp hnam ?_) | fail); simp -implicitDefEqProofs [l0, l0', k16]) | refine hK _ ?_ | refine hK _ _ (by rfl) ?_ | fail)
    refine l7 (ι := Nat) (fun k => s7 [(1, vLs L), (3, .v (.c (.ptr 0 0))), (5, .v (.c (.ptr 1 0))), (6, .v (.c (.ptr 2 0))), (7, .v (.c (.row 3 6 ((Ty.take k).map tc)))), (8, .v (.c (.row 4 6 ((Fo.take k).map tc)))), (9, vI (k : Nat))] [some (.box (ta (.mk mx ml))), some (.box (ta (.mk x l))), some (.box (ta z0T ++ (ta z0T ++ [.pv (I 0), .pv (I 0)]))), some (.row 25 6), some (.row 25 6)]) (fun k => k ≤ l.length ∧ ∀ y ∈ l.take k, (ofT (.mk mx ml) L y).er = 0) (fun k => l.length - k) 0 ⟨Nat.zero_le _, by simp⟩ (by first | (refine f7 [0, 1, 2, 31, 33] ?_ ?_ (by decide) rfl (by simp) <;> (simp -implicitDefEqProofs; done)) | (refine f7 [0, 1, 2, 34, 36] ?_ ?_ (by decide) rfl (by simp) <;> (simp -implicitDefEqProofs [k16]; done))) (fun Z hI k hk => ?_)
    obtain ⟨hk, hz⟩ := hk
    by_cases hkl : k < l.length; rotate_left
    · have : k = l.length := by omega
      subst this
      rw [List.take_length] at hz
      rw [hend hz]
      have e1 : Ty.take l.length = Ty := List.take_of_length_le (by omega)
      have e2 : Fo.take l.length = Fo := List.take_of_length_le (by omega)
      rw [e1, e2]
      by_cases he : re = 0
      · subst he
        repeat' (first | refine d4 ?_ | refine b8 ?_ | refine b7 ?_ | refine b9 ?_ | refine f5 rfl ?_ | refine d8 rfl ?_ | ((first | refine c5 (fun K hK => ?_) | refine d5 f8 (fun K hK => ?_) | refine a9 (cp hru ?_) | refine a8 (dp hru ?_) | fail); simp -implicitDefEqProofs) | refine hK _ ?_ | refine hK _ _ (by rfl) ?_ | fail)
        refine d7 (d6 ?_); simp -implicitDefEqProofs [g8, f9, g7] <;> try rfl
      · unfold c08
        repeat' (first | refine d4 ?_ | refine b8 ?_ | refine b7 ?_ | refine b9 ?_ | refine f5 rfl ?_ | refine d8 rfl ?_ | ((first | refine c5 (fun K hK => ?_) | refine d5 f8 (fun K hK => ?_) | refine a9 (cp hru ?_) | refine a8 (dp hru ?_) | refine a9 (cp hbe ?_) | refine a8 (dp hbe ?_) | fail); simp -implicitDefEqProofs [he]) | refine hK _ ?_ | refine hK _ _ (by rfl) ?_ | fail)
        refine d7 (d6 ?_); simp -implicitDefEqProofs [g8, f9, g7, he] <;> try rfl
    obtain ⟨⟨ax, al⟩, ha⟩ : ∃ a, l[k]? = some a := ⟨_, List.getElem?_eq_getElem hkl⟩
    have ha' := (List.getElem?_eq_some_iff.1 ha).2
    have hsz1 := Tr.size_at (x := x) ha
    have hc := ih _ (List.mem_of_getElem? ha) (hl _ (List.mem_of_getElem? ha)) (by omega)
    have w2 : IntKind.i64.wrap ((k : Nat) + 1 : Int) = (k : Nat) + 1 := k9 _ (by omega) (by omega)
    have hs := hTk k _ ha
    have hf := hFk k _ ha
    have hto := hat k ax al ha
    have hTkl : (Ty.take k).length = k := by rw [List.length_take]; omega
    have hFkl : (Fo.take k).length = k := by rw [List.length_take]; omega
    obtain ⟨TK, hTK⟩ : ∃ TK, Ty.take k = TK := ⟨_, rfl⟩
    obtain ⟨FK, hFK⟩ : ∃ FK, Fo.take k = FK := ⟨_, rfl⟩
    have hnx : (ofT (.mk mx ml) L (.mk ax al)).er = 0 → ∀ y ∈ l.take (k + 1), (ofT (.mk mx ml) L y).er = 0 := by
      intro he y hy
      rw [List.take_add_one, ha] at hy
      rcases List.mem_append.1 hy with hy | hy
      · exact hz y hy
      · simp at hy; subst hy; exact he
    obtain ⟨⟨⟨bx, bl⟩, ⟨cx, cl⟩, gp, ge⟩, hG⟩ : ∃ g, ofT (.mk mx ml) L (.mk ax al) = g := ⟨_, rfl⟩
    rw [hG] at hc hto hs hf hnx
    rw [hTK] at hs hTkl ⊢
    rw [hFK] at hf hFkl ⊢
    clear hG hTK hFK hTk hFk hat hend ih
    have b1 : (k + 1) * 72 ≤ 140737488355328 := by omega
    have b2 : k + 1 ≤ 140737488355328 := by omega
    by_cases he : ge = 0
    · have he' := eq_true he
      repeat' (first | refine d4 ?_ | refine b8 ?_ | refine b7 ?_ | refine b9 ?_ | refine f5 rfl ?_ | refine d8 rfl ?_ | ((first | refine c5 (fun K hK => ?_) | refine d5 f8 (fun K hK => ?_) | refine a9 (cp hc ?_) | refine a8 (dp hc ?_) | fail); simp -implicitDefEqProofs [hkl, ha, ha', hTkl, hFkl, b1, b2, w2, he']) | refine hK _ ?_ | refine hK _ _ (by rfl) ?_ | fail)
      refine ⟨k + 1, ⟨by omega, hnx he⟩, (by dsimp only; omega), ?_⟩
      rw [hI, hs, hf]; exact f7 [0, 1, 2, 97, 103] (by simp -implicitDefEqProofs) (by simp -implicitDefEqProofs) (by decide) rfl (by simp)
    · rw [hto he hz]
      repeat' (first | refine d4 ?_ | refine b8 ?_ | refine b7 ?_ | refine b9 ?_ | refine f5 rfl ?_ | refine d8 rfl ?_ | ((first | refine c5 (fun K hK => ?_) | refine d5 f8 (fun K hK => ?_) | refine a9 (cp hc ?_) | refine a8 (dp hc ?_) | fail); simp -implicitDefEqProofs [hkl, ha, ha', he]) | refine hK _ ?_ | refine hK _ _ (by rfl) ?_ | fail)
      refine d7 (d6 ?_); simp -implicitDefEqProofs [g8, f9, g7] <;> try rfl)
structure GR where
  t : VT
  pl : Int
  er : Int
noncomputable def u9 (x : Lab) (e : Int) : GR := ⟨z0T, x.f, e⟩
noncomputable def b4n (g : GV) : GR := ⟨g.fo, g.pl, g.er⟩
def a2u (k : Int) : Int × Int :=
  if k = 20 ∨ k = 21 ∨ k = 26 ∨ k = 27 ∨ k = 28 then (1, 0)
  else if k = 22 then (2, 0)
  else if k = 23 then (3, 2)
  else if k = 24 then (2, 1)
  else if k = 25 then (3, 1)
  else (-1, 0)
def c09 (y : VT) : Bool := decide (y.lab.k = 29)
def b5d (x : Lab) (l : List VT) : Bool := if x.k = 29 then true else decide ((l.length : Int) = (a2u x.k).1) && (l.drop ((a2u x.k).1 - (a2u x.k).2).toNat).all c09
noncomputable def c3d (m : VT) (L : List VT) (t : VT) : List VT :=
  if t.lab.k = 20 ∧ t.kids.length = 1 then L ++ [(ofT m L (t.kids.getD 0 z0T)).ty]
  else if t.lab.k = 21 ∧ t.kids.length = 1 then L ++ [t.kids.getD 0 z0T]
  else L
noncomputable def c0e (m : VT) (L : List VT) (t : VT) (a b : Int) : GR :=
  if (ofT m L t).er = 0 ∧ isT (ofT m L t).ty a = false ∧ isT (ofT m L t).ty b = false then u9 t.lab 10 else b4n (ofT m L t)
noncomputable def blkG (m : VT) (x : Lab) : List (VT × (List VT → GR)) → List VT → List VT → GR
  | [], _, acc => ⟨.mk ⟨x.k, x.n, ⟨#[]⟩, 0, 0⟩ acc, 0, 0⟩
  | p :: r, L, acc => if (p.2 L).er = 0 then blkG m x r (c3d m L p.1) (acc ++ [(p.2 L).t]) else p.2 L
noncomputable def prtG (m ret : VT) (L : List VT) (x : Lab) (i : Nat) (y : VT) (f : List VT → GR) : GR :=
  if (a2u x.k).1 - (a2u x.k).2 ≤ i then f (if x.k = 25 then L ++ [tyT 1] else L)
  else if x.k = 21 then (if a0p m y = 0 then u9 y.lab 11 else ⟨y6 y, 0, 0⟩)
  else if x.k = 23 ∨ x.k = 24 then c0e m L y 2 2
  else if x.k = 25 then c0e m L y 1 1
  else if x.k = 26 then c0e m L y 1 2
  else if x.k = 28 ∧ ¬ y.lab.k = 16 then u9 y.lab 12
  else if x.k = 27 ∧ (ofT m L y).er = 0 ∧ same (ofT m L y).ty (a2t ret) = false then u9 y.lab 10
  else b4n (ofT m L y)
noncomputable def b8o (m ret : VT) (L : List VT) (x : Lab) : Nat → List (VT × (List VT → GR)) → List GR
  | _, [] => []
  | i, p :: r => prtG m ret L x i p.1 p.2 :: b8o m ret L x (i + 1) r
noncomputable def endG (m : VT) (L : List VT) (x : Lab) (l : List VT) (gs : List GR) : GR :=
  if x.k = 22 ∧ ¬ ((a5j (l.getD 0 z0T)).lab.k = 7 ∨ (a5j (l.getD 0 z0T)).lab.k = 9) then u9 (l.getD 0 z0T).lab 12
  else if x.k = 22 ∧ same (ofT m L (l.getD 0 z0T)).ty (ofT m L (l.getD 1 z0T)).ty = false then u9 x 10
  else ⟨.mk ⟨x.k, x.n, ⟨#[]⟩, 0, 0⟩ (gs.map GR.t), 0, 0⟩
noncomputable def stmC (m ret : VT) (x : Lab) (l : List VT) (fs : List (List VT → GR)) (L : List VT) : GR :=
  if b5d x l = false then u9 x 12
  else if x.k = 29 then blkG m x (l.zip fs) L []
  else match (b8o m ret L x 0 (l.zip fs)).find? (fun g => !decide (g.er = 0)) with
    | some g => g
    | none => endG m L x l (b8o m ret L x 0 (l.zip fs))
noncomputable def a3n (m ret : VT) (t : VT) : List VT → GR := Tr.fold (stmC m ret) t
theorem c6z (m ret : VT) (x : Lab) (l : List VT) : a3n m ret (.mk x l) = stmC m ret x l (l.map (a3n m ret)) := Tr.fold_mk _ x l
theorem c0c {α β : Type} (f : α → β) : ∀ l : List α, l.zip (l.map f) = l.map (fun y => (y, f y))
  | [] => rfl
  | y :: l => by rw [List.map_cons, List.zip_cons_cons, c0c f l]; rfl
noncomputable def a80 (m ret : VT) (x : Lab) : List VT → List VT → List VT → GR
  | [], _, acc => ⟨.mk ⟨x.k, x.n, ⟨#[]⟩, 0, 0⟩ acc, 0, 0⟩
  | t :: r, L, acc => if (a3n m ret t L).er = 0 then a80 m ret x r (c3d m L t) (acc ++ [(a3n m ret t L).t]) else a3n m ret t L
theorem b6y (m ret : VT) (x : Lab) : ∀ (l : List VT) (L acc : List VT), blkG m x (l.map (fun y => (y, a3n m ret y))) L acc = a80 m ret x l L acc
  | [], L, acc => rfl
  | t :: r, L, acc => by
    rw [List.map_cons]
    unfold blkG a80
    rw [b6y m ret x r]
noncomputable def b4w (m ret : VT) (L : List VT) (x : Lab) (i : Nat) (y : VT) : GR := prtG m ret L x i y (a3n m ret y)
noncomputable def a03 (m ret : VT) (L : List VT) (x : Lab) : Nat → List VT → List GR
  | _, [] => []
  | i, y :: r => b4w m ret L x i y :: a03 m ret L x (i + 1) r
theorem b3k (m ret : VT) (L : List VT) (x : Lab) : ∀ (i : Nat) (l : List VT), b8o m ret L x i (l.map (fun y => (y, a3n m ret y))) = a03 m ret L x i l
  | _, [] => rfl
  | i, y :: r => by
    rw [List.map_cons]
    unfold b8o a03
    rw [b3k m ret L x (i + 1) r]
    rfl
theorem a70 (m ret : VT) (x : Lab) (l : List VT) (L : List VT) : a3n m ret (.mk x l) L = if b5d x l = false then u9 x 12
  else if x.k = 29 then a80 m ret x l L []
  else match (a03 m ret L x 0 l).find? (fun g => !decide (g.er = 0)) with
    | some g => g
    | none => endG m L x l (a03 m ret L x 0 l) := by
  rw [c6z]
  unfold stmC
  rw [c0c, b6y, b3k]
def c1x (l : List VT) : Bool := l.all o9
def a12 (f : VT) : List VT := ((f.kids.getD 0 z0T).kids).map (fun q => q.kids.getD 0 z0T)
noncomputable def fnT (m : VT) (x : Lab) (l : List VT) : GR :=
  if ¬ (x.n = 0 ∨ x.n = 1) ∨ ¬ l.length = 3 ∨ ¬ (l.getD 0 z0T).lab.k = 35 ∨ c1x (l.getD 0 z0T).kids = false ∨ ¬ (l.getD 2 z0T).lab.k = 29 then u9 x 12
  else match (a12 (.mk x l) ++ [l.getD 1 z0T]).find? (fun a => decide (a0p m a = 0)) with
    | some a => u9 a.lab 11
    | none => match (a12 (.mk x l) ++ [l.getD 1 z0T]).find? (fun a => decide (x.n = 1) && !(decide (0 < a0p m a) && a4k a)) with
      | some a => u9 a.lab 12
      | none => if (a3n m (l.getD 1 z0T) (l.getD 2 z0T) (a12 (.mk x l))).er = 0
          then ⟨.mk ⟨x.k, x.n, ⟨#[]⟩, 0, 0⟩ [y6 (l.getD 0 z0T), y6 (l.getD 1 z0T), (a3n m (l.getD 1 z0T) (l.getD 2 z0T) (a12 (.mk x l))).t], 0, 0⟩
          else a3n m (l.getD 1 z0T) (l.getD 2 z0T) (a12 (.mk x l))
noncomputable def a5x (m : VT) (i : Nat) (t : VT) : GR :=
  if t.lab.k = 33 then fnT m t.lab t.kids
  else if t.lab.k = 30 then
    (if b3t t = false then u9 t.lab 12 else if a0p m (.mk ⟨4, i, ⟨#[]⟩, 0, 0⟩ []) = 0 then u9 t.lab 11 else ⟨y6 t, 0, 0⟩)
  else if t.lab.k = 32 ∧ t.kids.length = 1 then
    (if a0p m (t.kids.getD 0 z0T) = 0 then u9 (t.kids.getD 0 z0T).lab 11 else ⟨y6 t, 0, 0⟩)
  else if ¬ t.lab.k = 31 ∨ ¬ t.kids.length = 1 ∨ 0 < (t.kids.getD 0 z0T).kids.length ∨ (a5c (t.kids.getD 0 z0T)).lab.k = 0 ∨ ((t.kids.getD 0 z0T).lab.k = 6 ∧ ¬ (t.kids.getD 0 z0T).lab.n = 0 ∧ ¬ (t.kids.getD 0 z0T).lab.n = 1) then u9 t.lab 12
  else ⟨y6 t, 0, 0⟩
noncomputable def x6 (m : VT) : Nat → List VT → List GR
  | _, [] => []
  | i, t :: r => a5x m i t :: x6 m (i + 1) r
noncomputable def a8e (m : VT) : GR :=
  if ¬ m.lab.k = 36 then u9 m.lab 12
  else match (x6 m 0 m.kids).find? (fun g => !decide (g.er = 0)) with
    | some g => ⟨z0T, g.pl, g.er⟩
    | none => ⟨.mk ⟨m.lab.k, m.lab.n, ⟨#[]⟩, 0, 0⟩ ((x6 m 0 m.kids).map GR.t), 0, 0⟩
end Go.Proofs.YthkfdheoakbfnaaGreat.am
end
section
namespace Go.Proofs.YthkfdheoakbfnaaGreat.vt
open Go.Proofs.YthkfdheoakbfnaaGreat.am
set_option linter.unusedVariables false
structure SG where
  t : VT
  pl : Int
  er : Int
abbrev LR := List VT × Int × Int
noncomputable def b5s (x : Lab) (e : Int) : SG := ⟨z0T, x.f, e⟩
def dcl (ml : List VT) (s : ByteArray) : Option Nat := ml.findIdx? fun d => decide (d.lab.s = s)
def a1j (ml : List VT) (s : ByteArray) : Int := match dcl ml s with
  | some i => (i : Nat)
  | none => -1
def b1i (ml : List VT) (s : ByteArray) : Int := match dcl ml s with
  | some i => (ml.getD i z0T).lab.k
  | none => 0
def b5v (L : List ByteArray) (s : ByteArray) : Option Nat := L.reverse.findIdx? fun a => decide (a = s)
noncomputable def b5w (ml : List VT) (L : List ByteArray) (x : Lab) : SG := match b5v L x.s with
  | some n => ⟨.mk ⟨7, (n : Nat), ⟨#[]⟩, x.f, x.t⟩ [], 0, 0⟩
  | none => if b1i ml x.s = 31 then ⟨.mk ⟨8, a1j ml x.s, ⟨#[]⟩, x.f, x.t⟩ [], 0, 0⟩ else if b1i ml x.s = 32 then ⟨.mk ⟨9, a1j ml x.s, ⟨#[]⟩, x.f, x.t⟩ [], 0, 0⟩ else b5s x 8
def b1l (L : List ByteArray) (y : VT) : List ByteArray := if y.lab.k = 20 ∨ y.lab.k = 21 then L ++ [y.lab.s] else L
def b5x (ml : List VT) (x : Lab) : Lab := ⟨x.k, if x.k = 16 ∨ x.k = 15 ∨ x.k = 4 then a1j ml x.s else x.n, if x.k = 13 ∨ x.k = 17 then x.s else ⟨#[]⟩, x.f, x.t⟩
def b5y (ml : List VT) (x : Lab) : Bool := (decide (x.k = 16) && !decide (b1i ml x.s = 33)) || ((decide (x.k = 15) || decide (x.k = 4)) && !decide (b1i ml x.s = 30))
def a5b (x : Lab) (L : List ByteArray) (i : Nat) (kn : List ByteArray) : List ByteArray := if x.k = 25 ∧ i = 2 then L ++ [x.s] else kn
def knxS (x : Lab) (kn : List ByteArray) (y : VT) : List ByteArray := if x.k = 29 then b1l kn y else kn
noncomputable def seqC (ml : List VT) (x : Lab) (L : List ByteArray) : Nat → List (VT × (List ByteArray → SG)) → List ByteArray → List VT → SG
  | _, [], _, acc => ⟨.mk (b5x ml x) acc, 0, 0⟩
  | i, p :: r, kn, acc => if (p.2 (a5b x L i kn)).er ≠ 0 then ⟨z0T, (p.2 (a5b x L i kn)).pl, (p.2 (a5b x L i kn)).er⟩ else seqC ml x L (i + 1) r (knxS x (a5b x L i kn) p.1) (acc ++ [(p.2 (a5b x L i kn)).t])
noncomputable def anyC (ml : List VT) (x : Lab) (l : List VT) (fs : List (List ByteArray → SG)) (L : List ByteArray) : SG :=
  if x.k = 19 then b5w ml L x else if b5y ml x = true then b5s x 8 else seqC ml x L 0 (l.zip fs) L []
noncomputable def u4 (ml : List VT) (t : VT) : List ByteArray → SG := Tr.fold (anyC ml) t
noncomputable def a46 (ml : List VT) (x : Lab) (L : List ByteArray) : Nat → List VT → List ByteArray → List VT → SG
  | _, [], _, acc => ⟨.mk (b5x ml x) acc, 0, 0⟩
  | i, y :: r, kn, acc => if (u4 ml y (a5b x L i kn)).er ≠ 0 then ⟨z0T, (u4 ml y (a5b x L i kn)).pl, (u4 ml y (a5b x L i kn)).er⟩ else a46 ml x L (i + 1) r (knxS x (a5b x L i kn) y) (acc ++ [(u4 ml y (a5b x L i kn)).t])
theorem b9a (ml : List VT) (x : Lab) (L : List ByteArray) : ∀ (l : List VT) (i : Nat) (kn : List ByteArray) (acc : List VT), seqC ml x L i (l.zip (l.map (u4 ml))) kn acc = a46 ml x L i l kn acc
  | [], i, kn, acc => rfl
  | y :: r, i, kn, acc => by
    rw [List.map_cons, List.zip_cons_cons]
    unfold seqC a46
    dsimp only
    split
    · rfl
    · exact b9a ml x L r _ _ _
theorem a2w (ml : List VT) (x : Lab) (l : List VT) (L : List ByteArray) : u4 ml (.mk x l) L = if x.k = 19 then b5w ml L x else if b5y ml x = true then b5s x 8 else a46 ml x L 0 l L [] := by
  have h : u4 ml (.mk x l) L = anyC ml x l (l.map (u4 ml)) L := by unfold u4; rw [Tr.fold_mk]
  rw [h]
  show (if x.k = 19 then b5w ml L x else if b5y ml x = true then b5s x 8 else seqC ml x L 0 (l.zip (l.map (u4 ml))) L []) = _
  rw [b9a]
theorem b9b (ml : List VT) (x : Lab) (L : List ByteArray) : ∀ (l : List VT) (i : Nat) (kn : List ByteArray) (acc : List VT), (a46 ml x L i l kn acc).er = 0 → (a46 ml x L i l kn acc).pl = 0
  | [], i, kn, acc, _ => rfl
  | y :: r, i, kn, acc, h => by
    unfold a46 at h ⊢
    split
    · rename_i c; rw [if_pos c] at h; exact absurd h c
    · rename_i c; rw [if_neg c] at h; exact b9b ml x L r _ _ _ h
theorem any_pl (ml : List VT) (t : VT) (L : List ByteArray) (h : (u4 ml t L).er = 0) : (u4 ml t L).pl = 0 := by
  obtain ⟨x, l⟩ := t
  rw [a2w] at h ⊢
  split
  · rename_i c
    rw [if_pos c] at h
    unfold b5w at h ⊢
    split
    · rfl
    · rename_i e
      rw [e] at h
      dsimp only at h
      split
      · rfl
      · rename_i k1
        rw [if_neg k1] at h
        split
        · rfl
        · rename_i k2; rw [if_neg k2] at h; exact absurd (show (8 : Int) = 0 from h) (by decide)
  · rename_i c
    rw [if_neg c] at h
    split
    · rename_i d; rw [if_pos d] at h; exact absurd (show (8 : Int) = 0 from h) (by decide)
    · rename_i d; rw [if_neg d] at h; exact b9b ml x L _ _ _ _ h
noncomputable def b5z (x : Lab) (acc : List VT) (g : LR) : SG := if g.2.2 ≠ 0 then ⟨z0T, g.2.1, g.2.2⟩ else ⟨.mk x (acc ++ g.1), 0, 0⟩
noncomputable def b1h (keep : Bool) (g : VT) (s : ByteArray) : VT := if keep = true then .mk { g.lab with s := s } g.kids else g
def a3u (seen : List ByteArray) (s : ByteArray) : Bool := seen.any fun a => decide (a = s)
noncomputable def s8 (ml : List VT) (keep : Bool) (seen : List ByteArray) : List VT → LR
  | [] => ([], 0, 0)
  | y :: r => if a3u seen y.lab.s = true then ([], y.lab.f, 9) else if (u4 ml y []).er ≠ 0 then ([], (u4 ml y []).pl, (u4 ml y []).er) else if (s8 ml keep (seen ++ [y.lab.s]) r).2.2 ≠ 0 then ([], (s8 ml keep (seen ++ [y.lab.s]) r).2) else (b1h keep (u4 ml y []).t y.lab.s :: (s8 ml keep (seen ++ [y.lab.s]) r).1, 0, 0)
noncomputable def fnS (ml : List VT) (x : Lab) (p : Lab) (pl : List VT) (r b : VT) : SG :=
  if (s8 ml false [] pl).2.2 ≠ 0 then ⟨z0T, (s8 ml false [] pl).2.1, (s8 ml false [] pl).2.2⟩
  else if (u4 ml r []).er ≠ 0 then ⟨z0T, (u4 ml r []).pl, (u4 ml r []).er⟩
  else if (u4 ml b (pl.map (·.lab.s))).er ≠ 0 then ⟨z0T, (u4 ml b (pl.map (·.lab.s))).pl, (u4 ml b (pl.map (·.lab.s))).er⟩
  else ⟨.mk ⟨x.k, x.n, ⟨#[]⟩, x.f, x.t⟩ [.mk ⟨p.k, 0, ⟨#[]⟩, p.f, p.t⟩ (s8 ml false [] pl).1, (u4 ml r []).t, (u4 ml b (pl.map (·.lab.s))).t], 0, 0⟩
noncomputable def a1m (ml : List VT) (t : VT) : SG :=
  if t.lab.k = 30 then b5z ⟨t.lab.k, t.lab.n, ⟨#[]⟩, t.lab.f, t.lab.t⟩ [] (s8 ml true [] t.kids)
  else if t.lab.k = 33 then fnS ml t.lab (t.kids.getD 0 z0T).lab (t.kids.getD 0 z0T).kids (t.kids.getD 1 z0T) (t.kids.getD 2 z0T)
  else u4 ml t []
noncomputable def o6 (ml : List VT) : List VT → LR
  | [] => ([], 0, 0)
  | y :: r => if (a1m ml y).er ≠ 0 then ([], (a1m ml y).pl, (a1m ml y).er) else if (o6 ml r).2.2 ≠ 0 then ([], (o6 ml r).2) else ((a1m ml y).t :: (o6 ml r).1, 0, 0)
def a6l (seen : List ByteArray) : List VT → Option Int
  | [] => none
  | y :: r => if a3u seen y.lab.s = true then some y.lab.f else a6l (seen ++ [y.lab.s]) r
noncomputable def a2i (x : Lab) (ml : List VT) : SG := match a6l [] ml with
  | some f => ⟨z0T, f, 9⟩
  | none => b5z ⟨x.k, x.n, ⟨#[]⟩, x.f, x.t⟩ [] (o6 ml ml)
theorem a9m (ml : List VT) (keep : Bool) (y : VT) : ∀ (l : List VT) (seen : List ByteArray), s8 ml keep seen (l ++ [y]) = if (s8 ml keep seen l).2.2 ≠ 0 then ([], (s8 ml keep seen l).2) else if a3u (seen ++ l.map (·.lab.s)) y.lab.s = true then ([], y.lab.f, 9) else if (u4 ml y []).er ≠ 0 then ([], (u4 ml y []).pl, (u4 ml y []).er) else ((s8 ml keep seen l).1 ++ [b1h keep (u4 ml y []).t y.lab.s], 0, 0)
  | [], seen => by
    simp only [List.nil_append, s8, List.map_nil, List.append_nil]
    by_cases d : a3u seen y.lab.s = true
    · simp [d]
    · by_cases c : (u4 ml y []).er = 0 <;> simp [c, d]
  | z :: l, seen => by
    rw [List.cons_append]
    unfold s8
    rw [a9m ml keep y l, List.map_cons, show seen ++ z.lab.s :: l.map (·.lab.s) = (seen ++ [z.lab.s]) ++ l.map (·.lab.s) by simp]
    generalize a3u (seen ++ [z.lab.s] ++ l.map (·.lab.s)) y.lab.s = e
    by_cases d : a3u seen z.lab.s = true
    · simp [d]
    · by_cases a : (u4 ml z []).er = 0
      · by_cases b : (s8 ml keep (seen ++ [z.lab.s]) l).2.2 = 0
        · cases e
          · by_cases c : (u4 ml y []).er = 0 <;> simp [d, a, b, c]
          · simp [d, a, b]
        · simp [d, a, b]
      · simp [d, a]
theorem a5z (ml : List VT) (y : VT) : ∀ l : List VT, o6 ml (l ++ [y]) = if (o6 ml l).2.2 ≠ 0 then ([], (o6 ml l).2) else if (a1m ml y).er ≠ 0 then ([], (a1m ml y).pl, (a1m ml y).er) else ((o6 ml l).1 ++ [(a1m ml y).t], 0, 0)
  | [] => by
    simp only [List.nil_append, o6]
    by_cases c : (a1m ml y).er = 0 <;> simp [c]
  | z :: l => by
    rw [List.cons_append]
    unfold o6
    rw [a5z ml y l]
    by_cases a : (a1m ml z).er = 0
    · by_cases b : (o6 ml l).2.2 = 0
      · by_cases c : (a1m ml y).er = 0 <;> simp [a, b, c]
      · simp [a, b]
    · simp [a]
theorem a97 (y : VT) : ∀ (l : List VT) (seen : List ByteArray), a6l seen (l ++ [y]) = match a6l seen l with
    | some f => some f
    | none => if a3u (seen ++ l.map (·.lab.s)) y.lab.s = true then some y.lab.f else none
  | [], seen => by simp [a6l]
  | z :: l, seen => by
    rw [List.cons_append]
    unfold a6l
    rw [a97 y l, List.map_cons, show seen ++ z.lab.s :: l.map (·.lab.s) = (seen ++ [z.lab.s]) ++ l.map (·.lab.s) by simp]
    generalize a3u (seen ++ [z.lab.s] ++ l.map (·.lab.s)) y.lab.s = e
    by_cases d : a3u seen z.lab.s = true <;> simp [d]
noncomputable def c0h (t : VT) : Prop := Tr.fold (fun x l b => (x.k = 33 → l = []) ∧ (x.k = 19 → l = []) ∧ ∀ q ∈ b, q) t
theorem j8 (x : Lab) (l : List VT) : c0h (.mk x l) ↔ (x.k = 33 → l = []) ∧ (x.k = 19 → l = []) ∧ ∀ y ∈ l, c0h y := by
  unfold c0h
  rw [Tr.fold_mk]
  constructor
  · rintro ⟨h1, h2, h3⟩; exact ⟨h1, h2, fun y hy => h3 _ (List.mem_map_of_mem hy)⟩
  · rintro ⟨h1, h2, h3⟩; refine ⟨h1, h2, fun q hq => ?_⟩
    obtain ⟨y, hy, rfl⟩ := List.mem_map.1 hq
    exact h3 y hy
def scpP (q : VT) : Prop := q.lab.k = 34 ∧ ∀ y ∈ q.kids, c0h y
def b5c (d : VT) : Prop :=
  if d.lab.k = 30 then ∀ q ∈ d.kids, scpP q
  else if d.lab.k = 33 then ∃ p pl r b, d.kids = [.mk p pl, r, b] ∧ p.k = 35 ∧ p.n = 0 ∧ (∀ q ∈ pl, scpP q) ∧ c0h r ∧ c0h b
  else c0h d
end Go.Proofs.YthkfdheoakbfnaaGreat.vt
end
section
namespace Go.Proofs.YthkfdheoakbfnaaGreat.am
open Go.ChangeShapes Go.WideShapes Go.ChangeAt Go.RowKit
set_option linter.unusedVariables false
end Go.Proofs.YthkfdheoakbfnaaGreat.am
end
section
namespace Go.Proofs.YthkfdheoakbfnaaGreat.am
open Go.ChangeShapes Go.WideShapes Go.ChangeAt Go.RowKit
set_option linter.unusedVariables false
set_option linter.unusedSimpArgs false
variable {P : Program} {N nb : Nat} {st : St} {Q : Exit → St → Prop}
end Go.Proofs.YthkfdheoakbfnaaGreat.am
end
section
namespace Go.Proofs.YthkfdheoakbfnaaGreat.am
open Go.ChangeShapes Go.WideShapes Go.ChangeAt Go.RowKit
set_option linter.unusedVariables false
set_option linter.unusedSimpArgs false
variable {P : Program} {N nb : Nat} {st : St} {Q : Exit → St → Prop}
end Go.Proofs.YthkfdheoakbfnaaGreat.am
end
section
namespace Go.Proofs.YthkfdheoakbfnaaGreat.am
open Go.ChangeShapes Go.WideShapes Go.ChangeAt Go.RowKit
open vt
set_option linter.unusedVariables false
set_option linter.unusedSimpArgs false
theorem td_errno13 : td Tryz.prog 26 = some ⟨false, 1, 8, [.lit (.int .i64 0)], [], (.int .i64)⟩ := Eq.trans (by kernel_rfl) (Eq.refl _)
theorem td_strs13 : td Tryz.prog 83 = some ⟨false, 1, 24, [.nilS], [], (.slice 9)⟩ := Eq.trans (by kernel_rfl) (Eq.refl _)
attribute [simp] td_errno13 td_strs13
theorem a3q {l : List VT} {s : ByteArray} {i : Nat} (h : dcl l s = some i) : i < l.length := by
  unfold dcl at h
  exact (List.findIdx?_eq_some_iff_findIdx_eq.1 h).1
abbrev wsS (W : List ByteArray) : List (List PV) := W.map fun s => [Sx s]
theorem b0k (x : Lab) (a : List VT) (g : LR) : (b5z x a g).er = g.2.2 := by
  unfold b5z
  by_cases h : g.2.2 = 0 <;> simp [h]
theorem b5r (x : Lab) (a : List VT) (g : LR) (h : g.2.2 = 0) : (b5z x a g).t = .mk x (a ++ g.1) := by
  unfold b5z
  simp [h]
def kndD (d : VT) : Prop := d.lab.k = 30 ∨ d.lab.k = 31 ∨ d.lab.k = 32 ∨ d.lab.k = 33
theorem a98 (ml : List VT) (k : Nat) (y : VT) (hy : ml[k]? = some y) (h : a6l [] (ml.take k) = none) : a6l [] (ml.take (k + 1)) = if a3u ((ml.take k).map (·.lab.s)) y.lab.s = true then some y.lab.f else none := by
  rw [show ml.take (k + 1) = ml.take k ++ [y] by rw [List.take_add_one, hy]; rfl, a97, h]
  rfl
theorem b3x {f : Int} : ∀ (l r : List VT) (seen : List ByteArray), a6l seen l = some f → a6l seen (l ++ r) = some f
  | [], r, seen, h => by simp [a6l] at h
  | y :: l, r, seen, h => by
    rw [List.cons_append]
    unfold a6l at h ⊢
    split
    · rename_i c; rw [if_pos c] at h; exact h
    · rename_i c; rw [if_neg c] at h; exact b3x l r _ h
end Go.Proofs.YthkfdheoakbfnaaGreat.am
end
section
namespace Go.Proofs.YthkfdheoakbfnaaGreat.am
open vt
noncomputable abbrev vT3i (r : VT × Int × Int) : AV := .tup [.agg (ta r.1), .c (.pv (I r.2.1)), .c (.pv (I r.2.2))]
abbrev zTb : AO := .box [.pv (I 0), .pv (I 0), .pv (Sx ⟨#[]⟩), .pv .nilS, .pv (I 0), .pv (I 0)]
end Go.Proofs.YthkfdheoakbfnaaGreat.am
end
section
namespace Go.Proofs.YthkfdheoakbfnaaGreat.am
open Go.ChangeShapes Go.WideShapes Go.ChangeAt Go.RowKit
open vt
set_option linter.unusedVariables false
set_option linter.unusedSimpArgs false
theorem td_got13 : td Tryz.prog 61 = some ⟨true, 8, 88, [.lit (.int .i64 0), .lit (.int .i64 0), .lit (.string ⟨#[]⟩), .nilS, .lit (.int .i64 0), .lit (.int .i64 0), .lit (.int .i64 0), .lit (.int .i64 0)], [(0, 6, true), (6, 1, false), (7, 1, false)], .struct⟩ := Eq.trans (by kernel_rfl) (Eq.refl _)
attribute [simp] td_got13
abbrev b91 (W : List ByteArray) : AV := .v (.c (.pv (.sl 1 (wsS W))))
noncomputable abbrev vSg (g : SG) : AV := .v (.agg (ta g.t ++ [.pv (I g.pl), .pv (I g.er)]))
abbrev zGb : AO := .box [.pv (I 0), .pv (I 0), .pv (Sx ⟨#[]⟩), .pv .nilS, .pv (I 0), .pv (I 0), .pv (I 0), .pv (I 0)]
theorem a2l (mx : Lab) (ml : List VT) (hml : ml.length ≤ 100000) (s : ByteArray) : Row Tryz.prog 22 [vT (.mk mx ml), vS s] [] (vI (a1j ml s)) [] := by
  obtain ⟨R, hR⟩ : ∃ R, a1j ml s = R := ⟨_, rfl⟩
  have hno : dcl ml s = none → R = -1 := fun h => by rw [← hR]; unfold a1j; rw [h]
  have hyes : ∀ k : Nat, dcl ml s = some k → R = (k : Nat) := fun k h => by rw [← hR]; unfold a1j; rw [h]
  rw [hR]
  clear hR
  refine f6 Tryz.func22 rfl rfl (Nat.le_of_ble_eq_true rfl) ?_
  repeat (first | refine d4 ?_ | refine b8 ?_ | refine b7 ?_ | refine b9 ?_ | refine f5 rfl ?_ | refine d8 rfl ?_ | ((first | refine c5 (fun K hK => ?_) | refine d5 f8 (fun K hK => ?_) | fail); simp -implicitDefEqProofs; first | refine hK _ ?_ | refine hK _ _ (by rfl) ?_ | fail) | fail)
  refine l7 (ι := Nat) (fun k => s7 [(1, vS s), (2, .v (.c (.ptr 0 0))), (5, vI (k : Nat))] [some (.box (ta (.mk mx ml)))]) (fun k => k ≤ ml.length ∧ ∀ j y, j < k → ml[j]? = some y → y.lab.s ≠ s) (fun k => ml.length - k) 0 ⟨Nat.zero_le _, fun j y h => by omega⟩ (f7 [0] (by simp -implicitDefEqProofs) (by simp -implicitDefEqProofs) (by decide) rfl (by simp)) (fun Z hI k hk => ?_)
  obtain ⟨hk, hz⟩ := hk
  by_cases hkl : k < ml.length; rotate_left
  · have : k = ml.length := by omega
    subst this
    have hR := hno (by
      unfold dcl
      rw [List.findIdx?_eq_none_iff]
      intro y hm
      obtain ⟨j, hj⟩ := List.mem_iff_getElem?.1 hm
      simp [hz j y (List.getElem?_eq_some_iff.1 hj).1 hj])
    subst hR
    repeat (first | refine d4 ?_ | refine b8 ?_ | refine b7 ?_ | refine b9 ?_ | refine f5 rfl ?_ | refine d8 rfl ?_ | ((first | refine c5 (fun K hK => ?_) | refine d5 f8 (fun K hK => ?_) | fail); simp -implicitDefEqProofs; first | refine hK _ ?_ | refine hK _ _ (by rfl) ?_ | fail) | fail)
    refine d7 (d6 ?_); simp -implicitDefEqProofs [g8, f9, g7] <;> try rfl
  obtain ⟨⟨ax, al⟩, ha⟩ : ∃ a, ml[k]? = some a := ⟨_, List.getElem?_eq_getElem hkl⟩
  have ha' := (List.getElem?_eq_some_iff.1 ha).2
  have w2 : IntKind.i64.wrap ((k : Nat) + 1 : Int) = (k : Nat) + 1 := k9 _ (by omega) (by omega)
  by_cases c : ax.s = s
  · have hR := hyes k (by
      unfold dcl
      rw [List.findIdx?_eq_some_iff_getElem]
      refine ⟨hkl, by simp [ha', Tr.lab, c], fun j hj => ?_⟩
      have := hz j ml[j] hj (List.getElem?_eq_getElem (by omega))
      simpa using this)
    subst hR
    repeat (first | refine d4 ?_ | refine b8 ?_ | refine b7 ?_ | refine b9 ?_ | refine f5 rfl ?_ | refine d8 rfl ?_ | ((first | refine c5 (fun K hK => ?_) | refine d5 f8 (fun K hK => ?_) | fail); simp -implicitDefEqProofs [hkl, ha, ha', c]; first | refine hK _ ?_ | refine hK _ _ (by rfl) ?_ | fail) | fail)
    refine d7 (d6 ?_); simp -implicitDefEqProofs [g8, f9, g7] <;> try rfl
  · repeat (first | refine d4 ?_ | refine b8 ?_ | refine b7 ?_ | refine b9 ?_ | refine f5 rfl ?_ | refine d8 rfl ?_ | ((first | refine c5 (fun K hK => ?_) | refine d5 f8 (fun K hK => ?_) | fail); simp -implicitDefEqProofs [hkl, ha, ha', c, w2]; first | refine hK _ ?_ | refine hK _ _ (by rfl) ?_ | fail) | fail)
    refine ⟨k + 1, ⟨by omega, fun j y h1 h2 => ?_⟩, (by dsimp only; omega), ?_⟩
    · by_cases hj : j = k
      · subst hj; rw [ha] at h2; cases h2; exact c
      · exact hz j y (by omega) h2
    · rw [hI]; exact f7 [0] (by simp -implicitDefEqProofs) (by simp -implicitDefEqProofs) (by decide) rfl (by simp)
theorem a93 (mx : Lab) (ml : List VT) (hml : ml.length ≤ 100000) (s : ByteArray) : Row Tryz.prog 63 [vT (.mk mx ml), vS s] [] (vI (b1i ml s)) [] := by
  have hd := a2l mx ml hml s
  cases hq : dcl ml s with
  | none =>
    have e1 : a1j ml s = -1 := by unfold a1j; rw [hq]
    have e2 : b1i ml s = 0 := by unfold b1i; rw [hq]
    rw [e1] at hd
    rw [e2]
    refine f6 Tryz.func63 rfl rfl (Nat.le_of_ble_eq_true rfl) ?_
    repeat' (first | refine d4 ?_ | refine b8 ?_ | refine b7 ?_ | refine b9 ?_ | refine f5 rfl ?_ | refine d8 rfl ?_ | ((first | refine c5 (fun K hK => ?_) | refine d5 f8 (fun K hK => ?_) | refine a9 (cp hd ?_) | refine a8 (dp hd ?_) | fail); simp -implicitDefEqProofs) | refine hK _ ?_ | refine hK _ _ (by rfl) ?_ | fail)
    refine d7 (d6 ?_); simp -implicitDefEqProofs [g8, f9, g7] <;> try rfl
  | some i =>
    have hil := a3q hq
    obtain ⟨⟨dx, dl⟩, ha⟩ : ∃ a, ml[i]? = some a := ⟨_, List.getElem?_eq_getElem hil⟩
    have ha' := (List.getElem?_eq_some_iff.1 ha).2
    have e1 : a1j ml s = (i : Nat) := by unfold a1j; rw [hq]
    have e2 : b1i ml s = dx.k := by unfold b1i; rw [hq]; simp [ha, Tr.lab]
    have n0 : ¬ (i : Int) < 0 := by omega
    rw [e1] at hd
    rw [e2]
    refine f6 Tryz.func63 rfl rfl (Nat.le_of_ble_eq_true rfl) ?_
    repeat' (first | refine d4 ?_ | refine b8 ?_ | refine b7 ?_ | refine b9 ?_ | refine f5 rfl ?_ | refine d8 rfl ?_ | ((first | refine c5 (fun K hK => ?_) | refine d5 f8 (fun K hK => ?_) | refine a9 (cp hd ?_) | refine a8 (dp hd ?_) | fail); simp -implicitDefEqProofs [hil, ha, ha', n0]) | refine hK _ ?_ | refine hK _ _ (by rfl) ?_ | fail)
    refine d7 (d6 ?_); simp -implicitDefEqProofs [g8, f9, g7] <;> try rfl
theorem c6d {L : List ByteArray} {s : ByteArray} {n : Nat} (hn : n < L.length) (h : L[L.length - 1 - n]? = some s) (hz : ∀ j t, j < n → L[L.length - 1 - j]? = some t → t ≠ s) : b5v L s = some n := by
  unfold b5v
  rw [List.findIdx?_eq_some_iff_getElem]
  refine ⟨by simp; omega, ?_, fun j hj => ?_⟩
  · rw [List.getElem_reverse, (List.getElem?_eq_some_iff.1 h).2]; simp
  · rw [List.getElem_reverse]
    have := hz j _ hj (List.getElem?_eq_getElem (by omega))
    simpa using this
theorem c2m (L : List ByteArray) (hL : L.length ≤ 200000) (s : ByteArray) : Row Tryz.prog 76 [b91 L, vS s] [] (vI (match b5v L s with | some n => (n : Nat) | none => -1)) [] := by
  obtain ⟨R, hR⟩ : ∃ R : Int, (match b5v L s with | some n => ((n : Nat) : Int) | none => -1) = R := ⟨_, rfl⟩
  rw [hR]
  have hno : b5v L s = none → R = -1 := fun h => by rw [← hR, h]
  have hyes : ∀ k : Nat, b5v L s = some k → R = (k : Nat) := fun k h => by rw [← hR, h]
  clear hR
  refine f6 Tryz.func76 rfl rfl (Nat.le_of_ble_eq_true rfl) ?_
  repeat (first | refine d4 ?_ | refine b8 ?_ | refine b7 ?_ | refine b9 ?_ | refine f5 rfl ?_ | refine d8 rfl ?_ | ((first | refine c5 (fun K hK => ?_) | refine d5 f8 (fun K hK => ?_) | fail); simp -implicitDefEqProofs; first | refine hK _ ?_ | refine hK _ _ (by rfl) ?_ | fail) | fail)
  refine l7 (ι := Nat) (fun k => s7 [(0, b91 L), (1, vS s), (5, vI (k : Nat))] []) (fun k => k ≤ L.length ∧ ∀ j t, j < k → L[L.length - 1 - j]? = some t → t ≠ s) (fun k => L.length - k) 0 ⟨Nat.zero_le _, fun j y h => by omega⟩ (f7 [] (by simp -implicitDefEqProofs) (by simp -implicitDefEqProofs) (by decide) rfl (by simp)) (fun Z hI k hk => ?_)
  obtain ⟨hk, hz⟩ := hk
  by_cases hkl : k < L.length; rotate_left
  · have : k = L.length := by omega
    subst this
    have hR := hno (by
      unfold b5v
      rw [List.findIdx?_eq_none_iff]
      intro y hm
      obtain ⟨j, hj⟩ := List.mem_iff_getElem?.1 (List.mem_reverse.1 hm)
      have hjl := (List.getElem?_eq_some_iff.1 hj).1
      have := hz (L.length - 1 - j) y (by omega) (by rw [show L.length - 1 - (L.length - 1 - j) = j by omega]; exact hj)
      simpa using this)
    subst hR
    repeat (first | refine d4 ?_ | refine b8 ?_ | refine b7 ?_ | refine b9 ?_ | refine f5 rfl ?_ | refine d8 rfl ?_ | ((first | refine c5 (fun K hK => ?_) | refine d5 f8 (fun K hK => ?_) | fail); simp -implicitDefEqProofs; first | refine hK _ ?_ | refine hK _ _ (by rfl) ?_ | fail) | fail)
    refine d7 (d6 ?_); simp -implicitDefEqProofs [g8, f9, g7] <;> try rfl
  obtain ⟨i, hi⟩ : ∃ i, L.length - 1 - k = i := ⟨_, rfl⟩
  obtain ⟨a, ha⟩ : ∃ a, L[i]? = some a := ⟨_, List.getElem?_eq_getElem (by omega)⟩
  have ha' := (List.getElem?_eq_some_iff.1 ha).2
  have hil := (List.getElem?_eq_some_iff.1 ha).1
  have w1 : IntKind.i64.wrap ((L.length : Nat) - 1 : Int) = (L.length : Nat) - 1 := k9 _ (by omega) (by omega)
  have w3 : IntKind.i64.wrap ((L.length : Nat) - 1 - (k : Nat) : Int) = (i : Nat) := by rw [k9 _ (by omega) (by omega)]; omega
  have w2 : IntKind.i64.wrap ((k : Nat) + 1 : Int) = (k : Nat) + 1 := k9 _ (by omega) (by omega)
  by_cases c : a = s
  · have hR := hyes k (c6d hkl (by rw [hi, ha, c]) hz)
    subst hR
    repeat (first | refine d4 ?_ | refine b8 ?_ | refine b7 ?_ | refine b9 ?_ | refine f5 rfl ?_ | refine d8 rfl ?_ | ((first | refine c5 (fun K hK => ?_) | refine d5 f8 (fun K hK => ?_) | fail); simp -implicitDefEqProofs [hkl, hil, ha, ha', c, w1, w3]; first | refine hK _ ?_ | refine hK _ _ (by rfl) ?_ | fail) | fail)
    refine d7 (d6 ?_); simp -implicitDefEqProofs [g8, f9, g7] <;> try rfl
  · repeat (first | refine d4 ?_ | refine b8 ?_ | refine b7 ?_ | refine b9 ?_ | refine f5 rfl ?_ | refine d8 rfl ?_ | ((first | refine c5 (fun K hK => ?_) | refine d5 f8 (fun K hK => ?_) | fail); simp -implicitDefEqProofs [hkl, hil, ha, ha', c, w1, w2, w3]; first | refine hK _ ?_ | refine hK _ _ (by rfl) ?_ | fail) | fail)
    refine ⟨k + 1, ⟨by omega, fun j y h1 h2 => ?_⟩, (by dsimp only; omega), ?_⟩
    · by_cases hj : j = k
      · subst hj; rw [hi, ha] at h2; cases h2; exact c
      · exact hz j y (by omega) h2
    · rw [hI]; exact f7 [] (by simp -implicitDefEqProofs) (by simp -implicitDefEqProofs) (by decide) rfl (by simp)
theorem b3s (x : Lab) (l : List VT) (e : Int) : Row Tryz.prog 64 [vT (.mk x l), vI e] [] (vSg (b5s x e)) [] := by
  unfold b5s
  refine f6 Tryz.func64 rfl rfl (Nat.le_of_ble_eq_true rfl) ?_
  repeat (first | refine d4 ?_ | refine b8 ?_ | refine b7 ?_ | refine b9 ?_ | refine f5 rfl ?_ | refine d8 rfl ?_ | ((first | refine c5 (fun K hK => ?_) | refine d5 f8 (fun K hK => ?_) | fail); simp -implicitDefEqProofs; first | refine hK _ ?_ | refine hK _ _ (by rfl) ?_ | fail) | fail)
  refine d7 (d6 ?_); simp -implicitDefEqProofs [g8, f9, g7] <;> try rfl
theorem b9f (L : List ByteArray) (hL : L.length ≤ 200000) (x : Lab) (l : List VT) : Row Tryz.prog 65 [b91 L, vT (.mk x l)] [] (b91 (b1l L (.mk x l))) [] := by
  have b1 : (L.length + 1) * 16 ≤ 140737488355328 := by omega
  have b2 : L.length + 1 ≤ 140737488355328 := by omega
  have b3 : L.length * 16 ≤ 140737488355328 := by omega
  have b4 : L.length ≤ 140737488355328 := by omega
  unfold b1l
  rw [Tr.lab]
  by_cases h20 : x.k = 20
  · rw [if_pos (.inl h20)]
    refine f6 Tryz.func65 rfl rfl (Nat.le_of_ble_eq_true rfl) ?_
    repeat (first | refine d4 ?_ | refine b8 ?_ | refine b7 ?_ | refine b9 ?_ | refine f5 rfl ?_ | refine d8 rfl ?_ | ((first | refine c5 (fun K hK => ?_) | refine d5 f8 (fun K hK => ?_) | fail); simp -implicitDefEqProofs [h20, b1, b2, b3, b4]; first | refine hK _ ?_ | refine hK _ _ (by rfl) ?_ | fail) | fail)
    refine d7 (d6 ?_); simp -implicitDefEqProofs [g8, f9, g7] <;> try rfl
  by_cases h21 : x.k = 21
  · rw [if_pos (.inr h21)]
    refine f6 Tryz.func65 rfl rfl (Nat.le_of_ble_eq_true rfl) ?_
    repeat (first | refine d4 ?_ | refine b8 ?_ | refine b7 ?_ | refine b9 ?_ | refine f5 rfl ?_ | refine d8 rfl ?_ | ((first | refine c5 (fun K hK => ?_) | refine d5 f8 (fun K hK => ?_) | fail); simp -implicitDefEqProofs [h20, h21, b1, b2, b3, b4]; first | refine hK _ ?_ | refine hK _ _ (by rfl) ?_ | fail) | fail)
    refine d7 (d6 ?_); simp -implicitDefEqProofs [g8, f9, g7] <;> try rfl
  · rw [if_neg (by omega)]
    refine f6 Tryz.func65 rfl rfl (Nat.le_of_ble_eq_true rfl) ?_
    repeat (first | refine d4 ?_ | refine b8 ?_ | refine b7 ?_ | refine b9 ?_ | refine f5 rfl ?_ | refine d8 rfl ?_ | ((first | refine c5 (fun K hK => ?_) | refine d5 f8 (fun K hK => ?_) | fail); simp -implicitDefEqProofs [h20, h21]; first | refine hK _ ?_ | refine hK _ _ (by rfl) ?_ | fail) | fail)
    refine d7 (d6 ?_); simp -implicitDefEqProofs [g8, f9, g7] <;> try rfl
theorem b5f (mx : Lab) (ml : List VT) (hml : ml.length ≤ 100000) (L : List ByteArray) (hL : L.length ≤ 200000) (x : Lab) (l : List VT) : Row Tryz.prog 62 [vT (.mk mx ml), b91 L, vT (.mk x l)] [] (vSg (b5w ml L x)) [] := by
  have h1 := c2m L hL x.s
  have h2 := a93 mx ml hml x.s
  have h3 := a2l mx ml hml x.s
  have h4 := b3s x l 8
  unfold b5w
  cases hq : b5v L x.s with
  | some n =>
    rw [hq] at h1
    dsimp only at h1 ⊢
    have p0 : (0 : Int) ≤ (n : Nat) := by omega
    have hn : n < L.length := by
      unfold b5v at hq
      have := (List.findIdx?_eq_some_iff_findIdx_eq.1 hq).1
      simpa using this
    have w1 : IntKind.i64.wrap ((n : Nat) : Int) = (n : Nat) := k9 _ (by omega) (by omega)
    refine f6 Tryz.func62 rfl rfl (Nat.le_of_ble_eq_true rfl) ?_
    repeat' (first | refine d4 ?_ | refine b8 ?_ | refine b7 ?_ | refine b9 ?_ | refine f5 rfl ?_ | refine d8 rfl ?_ | ((first | refine c5 (fun K hK => ?_) | refine d5 f8 (fun K hK => ?_) | refine a9 (cp h1 ?_) | refine a8 (dp h1 ?_) | fail); simp -implicitDefEqProofs [p0, w1]) | refine hK _ ?_ | refine hK _ _ (by rfl) ?_ | fail)
    refine d7 (d6 ?_); simp -implicitDefEqProofs [g8, f9, g7] <;> try rfl
  | none =>
    rw [hq] at h1
    dsimp only at h1 ⊢
    have m1 : ¬ (0 : Int) ≤ -1 := by omega
    by_cases k31 : b1i ml x.s = 31
    · rw [k31] at h2
      rw [if_pos k31]
      have w1 : IntKind.i64.wrap (a1j ml x.s) = a1j ml x.s := by
        unfold a1j
        split
        · rename_i i hi; have := a3q hi; exact k9 _ (by omega) (by omega)
        · exact k9 _ (by omega) (by omega)
      generalize a1j ml x.s = di at h3 w1 ⊢
      refine f6 Tryz.func62 rfl rfl (Nat.le_of_ble_eq_true rfl) ?_
      repeat' (first | refine d4 ?_ | refine b8 ?_ | refine b7 ?_ | refine b9 ?_ | refine f5 rfl ?_ | refine d8 rfl ?_ | ((first | refine c5 (fun K hK => ?_) | refine d5 f8 (fun K hK => ?_) | refine a9 (cp h1 ?_) | refine a8 (dp h1 ?_) | refine a9 (cp h2 ?_) | refine a8 (dp h2 ?_) | refine a9 (cp h3 ?_) | refine a8 (dp h3 ?_) | fail); simp -implicitDefEqProofs [m1, w1]) | refine hK _ ?_ | refine hK _ _ (by rfl) ?_ | fail)
      refine d7 (d6 ?_); simp -implicitDefEqProofs [g8, f9, g7] <;> try rfl
    · rw [if_neg k31]
      by_cases k32 : b1i ml x.s = 32
      · rw [k32] at h2
        rw [if_pos k32]
        have w1 : IntKind.i64.wrap (a1j ml x.s) = a1j ml x.s := by
          unfold a1j
          split
          · rename_i i hi; have := a3q hi; exact k9 _ (by omega) (by omega)
          · exact k9 _ (by omega) (by omega)
        generalize a1j ml x.s = di at h3 w1 ⊢
        refine f6 Tryz.func62 rfl rfl (Nat.le_of_ble_eq_true rfl) ?_
        repeat' (first | refine d4 ?_ | refine b8 ?_ | refine b7 ?_ | refine b9 ?_ | refine f5 rfl ?_ | refine d8 rfl ?_ | ((first | refine c5 (fun K hK => ?_) | refine d5 f8 (fun K hK => ?_) | refine a9 (cp h1 ?_) | refine a8 (dp h1 ?_) | refine a9 (cp h2 ?_) | refine a8 (dp h2 ?_) | refine a9 (cp h3 ?_) | refine a8 (dp h3 ?_) | fail); simp -implicitDefEqProofs [m1, w1]) | refine hK _ ?_ | refine hK _ _ (by rfl) ?_ | fail)
        refine d7 (d6 ?_); simp -implicitDefEqProofs [g8, f9, g7] <;> try rfl
      · rw [if_neg k32]
        generalize b1i ml x.s = kk at k31 k32 h2
        generalize b5s x 8 = bb at h4 ⊢
        obtain ⟨⟨bx, bl⟩, bp, be⟩ := bb
        refine f6 Tryz.func62 rfl rfl (Nat.le_of_ble_eq_true rfl) ?_
        repeat' (first | refine d4 ?_ | refine b8 ?_ | refine b7 ?_ | refine b9 ?_ | refine f5 rfl ?_ | refine d8 rfl ?_ | ((first | refine c5 (fun K hK => ?_) | refine d5 f8 (fun K hK => ?_) | refine a9 (cp h1 ?_) | refine a8 (dp h1 ?_) | refine a9 (cp h2 ?_) | refine a8 (dp h2 ?_) | refine a9 (cp h4 ?_) | refine a8 (dp h4 ?_) | fail); simp -implicitDefEqProofs [m1, k31, k32]) | refine hK _ ?_ | refine hK _ _ (by rfl) ?_ | fail)
        refine d7 (d6 ?_); simp -implicitDefEqProofs [g8, f9, g7] <;> try rfl
end Go.Proofs.YthkfdheoakbfnaaGreat.am
end
