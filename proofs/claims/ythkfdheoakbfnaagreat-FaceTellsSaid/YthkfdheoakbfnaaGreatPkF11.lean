import Derived.Test.YthkfdheoakbfnaaGreatPkF10
import Derived.Test.YthkfdheoakbfnaaGreatPkF4
set_option maxRecDepth 100000
set_option maxHeartbeats 4000000
section
namespace Go.Proofs.YthkfdheoakbfnaaGreat.am
open Go.ChangeShapes Go.WideShapes Go.ChangeAt Go.RowKit
open vt
set_option linter.unusedVariables false
set_option linter.unusedSimpArgs false
theorem b9r (ml : List VT) : ∃ j, j ≤ ml.length ∧ (∀ k, k ≤ j → a6l [] (ml.take k) = none) ∧ (j < ml.length → ∀ y, ml[j]? = some y → a3u ((ml.take j).map (·.lab.s)) y.lab.s = true ∧ a6l [] ml = some y.lab.f) := by
  have key : ∀ n, n ≤ ml.length → (∀ k, k ≤ n → a6l [] (ml.take k) = none) ∨ ∃ j, j < n ∧ (∀ k, k ≤ j → a6l [] (ml.take k) = none) ∧ ∀ y, ml[j]? = some y → a3u ((ml.take j).map (·.lab.s)) y.lab.s = true ∧ a6l [] ml = some y.lab.f := by
    intro n
    induction n with
    | zero => intro _; exact .inl (fun k hk => by have : k = 0 := by omega
                                                  subst this; rfl)
    | succ n ih =>
      intro hn
      rcases ih (by omega) with h | ⟨j, h1, h2, h3⟩
      · obtain ⟨y, hy⟩ : ∃ y, ml[n]? = some y := ⟨_, List.getElem?_eq_getElem (by omega)⟩
        have ht := a98 ml n y hy (h n (Nat.le_refl _))
        by_cases c : a3u ((ml.take n).map (·.lab.s)) y.lab.s = true
        · rw [if_pos c] at ht
          refine .inr ⟨n, by omega, h, fun y' hy' => ?_⟩
          rw [hy] at hy'; cases hy'
          refine ⟨c, ?_⟩
          have := b3x (ml.take (n + 1)) (ml.drop (n + 1)) [] ht
          rw [List.take_append_drop] at this
          exact this
        · rw [if_neg c] at ht
          refine .inl (fun k hk => ?_)
          by_cases hk' : k = n + 1
          · subst hk'; exact ht
          · exact h k (by omega)
      · exact .inr ⟨j, by omega, h2, h3⟩
  rcases key ml.length (Nat.le_refl _) with h | ⟨j, h1, h2, h3⟩
  · exact ⟨ml.length, Nat.le_refl _, h, fun h' => by omega⟩
  · exact ⟨j, by omega, h2, fun _ => h3⟩
theorem a85 (ml : List VT) : ∀ (l r : List VT), (o6 ml l).2.2 ≠ 0 → (o6 ml (l ++ r)).2 = (o6 ml l).2
  | [], r, h => absurd rfl h
  | y :: l, r, h => by
    have ih := a85 ml l r
    rw [List.cons_append]
    unfold o6 at h ⊢
    by_cases d : (a1m ml y).er = 0
    · have hd : ¬ (a1m ml y).er ≠ 0 := by simpa using d
      simp only [if_neg hd] at h ⊢
      by_cases e : (o6 ml l).2.2 = 0
      · rw [if_neg (by simpa using e)] at h; exact absurd rfl h
      · have := ih e
        have he : (o6 ml l).2.2 ≠ 0 := e
        rw [this]
        simp only [if_pos he]
    · have hd : (a1m ml y).er ≠ 0 := d
      simp only [if_pos hd]
theorem b4h (ml l : List VT) : ∃ j, j ≤ l.length ∧ (∀ k, k ≤ j → (o6 ml (l.take k)).2.2 = 0) ∧ (j < l.length → (o6 ml (l.take (j + 1))).2.2 ≠ 0 ∧ (o6 ml l).2 = (o6 ml (l.take (j + 1))).2) := by
  have key : ∀ n, n ≤ l.length → (∀ k, k ≤ n → (o6 ml (l.take k)).2.2 = 0) ∨ ∃ j, j < n ∧ (∀ k, k ≤ j → (o6 ml (l.take k)).2.2 = 0) ∧ (o6 ml (l.take (j + 1))).2.2 ≠ 0 := by
    intro n
    induction n with
    | zero => intro _; exact .inl (fun k hk => by have : k = 0 := by omega
                                                  subst this; rfl)
    | succ n ih =>
      intro hn
      rcases ih (by omega) with h | ⟨j, h1, h2, h3⟩
      · by_cases c : (o6 ml (l.take (n + 1))).2.2 = 0
        · refine .inl (fun k hk => ?_)
          by_cases hk' : k = n + 1
          · subst hk'; exact c
          · exact h k (by omega)
        · exact .inr ⟨n, by omega, h, c⟩
      · exact .inr ⟨j, by omega, h2, h3⟩
  rcases key l.length (Nat.le_refl _) with h | ⟨j, h1, h2, h3⟩
  · exact ⟨l.length, Nat.le_refl _, h, fun h' => by omega⟩
  · refine ⟨j, by omega, h2, fun _ => ⟨h3, ?_⟩⟩
    have := a85 ml (l.take (j + 1)) (l.drop (j + 1)) h3
    rw [List.take_append_drop] at this
    exact this
theorem b2q (ml : List VT) : ∀ (l : List VT), (o6 ml l).2.2 = 0 → (o6 ml l).1.length = l.length
  | [], _ => rfl
  | y :: l, h => by
    unfold o6 at h ⊢
    split
    · rename_i d; rw [if_pos d] at h; exact absurd h d
    rename_i d; rw [if_neg d] at h
    split
    · rename_i e; rw [if_pos e] at h; exact absurd h e
    · rename_i e
      rw [List.length_cons, b2q ml l (by simpa using e), List.length_cons]
theorem b9i (x : Lab) (ml : List VT) (hml : ml.length ≤ 100000) (hd : ∀ d ∈ ml, b5c d ∧ d.size ≤ 40000) : Row Tryz.prog 11 [vT (.mk x ml)] [] (vT3i ((a2i x ml).t, (a2i x ml).pl, (a2i x ml).er)) [] := by
  obtain ⟨j, hj, h1, h2⟩ := b9r ml
  have hres : ∀ f, a6l [] ml = some f → a2i x ml = ⟨z0T, f, 9⟩ := fun f h => by unfold a2i; rw [h]
  have hres2 : a6l [] ml = none → a2i x ml = b5z ⟨x.k, x.n, ⟨#[]⟩, x.f, x.t⟩ [] (o6 ml ml) := fun h => by unfold a2i; rw [h]
  have hjn : j = ml.length → a6l [] ml = none := fun h => by
    have := h1 j (Nat.le_refl _)
    rw [h, List.take_length] at this; exact this
  obtain ⟨R, hR⟩ : ∃ R, a2i x ml = R := ⟨_, rfl⟩
  rw [hR] at hres hres2 ⊢
  clear hR
  refine f6 Tryz.func11 rfl rfl (Nat.le_of_ble_eq_true rfl) ?_
  repeat (first | refine d4 ?_ | refine b8 ?_ | refine b7 ?_ | refine b9 ?_ | refine f5 rfl ?_ | refine d8 rfl ?_ | ((first | refine c5 (fun K hK => ?_) | refine d5 f8 (fun K hK => ?_) | fail); simp -implicitDefEqProofs; first | refine hK _ ?_ | refine hK _ _ (by rfl) ?_ | fail) | fail)
  refine l7 (ι := Nat) (fun k => s7 [(1, .v (.c (.ptr 0 0))), (2, .v (.c (.ptr 1 0))), (5, vI (k : Nat))] [some (.box (ta (.mk x ml))), some zTb]) (fun k => k ≤ j) (fun k => ml.length - k) 0 (Nat.zero_le _) (f7 [0, 1] (by simp -implicitDefEqProofs) (by simp -implicitDefEqProofs) (by decide) rfl (by simp)) (fun Z hI k hk => ?_)
  by_cases hkl : k < ml.length
  · obtain ⟨⟨ax, al⟩, hy⟩ : ∃ a, ml[k]? = some a := ⟨_, List.getElem?_eq_getElem hkl⟩
    have hy' := (List.getElem?_eq_some_iff.1 hy).2
    have w2 : IntKind.i64.wrap ((k : Nat) + 1 : Int) = (k : Nat) + 1 := k9 _ (by omega) (by omega)
    have hkl' : (k : Int) < (ml.length : Nat) := by omega
    have hdc := a2l x ml hml ax.s
    by_cases hkj : k < j
    · have h3 := h1 (k + 1) (by omega)
      rw [a98 ml k _ hy (h1 k (by omega)), Tr.lab] at h3
      have hno : a3u ((ml.take k).map (·.lab.s)) ax.s = false := by
        cases hq : a3u ((ml.take k).map (·.lab.s)) ax.s with
        | false => rfl
        | true => rw [hq] at h3; simp at h3
      have hdk := dcl_at hy hno
      rw [Tr.lab] at hdk
      have e1 : a1j ml ax.s = (k : Nat) := by unfold a1j; rw [hdk]
      rw [e1] at hdc
      have nk : ¬ (k : Int) < (k : Nat) := by omega
      repeat' (first | refine d4 ?_ | refine b8 ?_ | refine b7 ?_ | refine b9 ?_ | refine f5 rfl ?_ | refine d8 rfl ?_ | ((first | refine c5 (fun K hK => ?_) | refine d5 f8 (fun K hK => ?_) | refine a9 (cp hdc ?_) | refine a8 (dp hdc ?_) | fail); simp -implicitDefEqProofs [hkl, hkl', hy, hy', nk, w2]) | refine hK _ ?_ | refine hK _ _ (by rfl) ?_ | fail)
      refine ⟨k + 1, by omega, (by dsimp only; omega), ?_⟩
      rw [hI]; exact f7 [0, 1] (by simp -implicitDefEqProofs) (by simp -implicitDefEqProofs) (by decide) rfl (by simp)
    · have e : k = j := by omega
      subst e
      obtain ⟨g1, g2⟩ := h2 hkl _ hy
      rw [Tr.lab] at g1 g2
      obtain ⟨q, hqk, hq⟩ := dcl_lt (y := .mk ax al) hkl g1
      rw [Tr.lab] at hq
      have e1 : a1j ml ax.s = (q : Nat) := by unfold a1j; rw [hq]
      rw [e1] at hdc
      have nk : (q : Int) < (k : Nat) := by omega
      have hr := hres _ g2
      subst hr
      clear hres hres2 hjn h1 h2
      repeat' (first | refine d4 ?_ | refine b8 ?_ | refine b7 ?_ | refine b9 ?_ | refine f5 rfl ?_ | refine d8 rfl ?_ | ((first | refine c5 (fun K hK => ?_) | refine d5 f8 (fun K hK => ?_) | refine a9 (cp hdc ?_) | refine a8 (dp hdc ?_) | fail); simp -implicitDefEqProofs [hkl, hkl', hy, hy', nk, hqk]) | refine hK _ ?_ | refine hK _ _ (by rfl) ?_ | fail)
      refine d7 (d6 ?_); simp -implicitDefEqProofs [g8, f9, g7] <;> try rfl
  have e1 : j = ml.length := by omega
  have e2 : k = ml.length := by omega
  subst e2
  have hr := hres2 (hjn e1)
  clear hres hres2 hjn h1 h2 hk hj e1
  obtain ⟨j2, hj2, d1, d2⟩ := b4h ml ml
  have hfull : j2 = ml.length → (o6 ml ml).2.2 = 0 := fun h => by
    have := d1 j2 (Nat.le_refl _)
    rw [h, List.take_length] at this; exact this
  have p0 : (o6 ml (ml.take 0)).1 = [] := rfl
  repeat (first | refine d4 ?_ | refine b8 ?_ | refine b7 ?_ | refine b9 ?_ | refine f5 rfl ?_ | refine d8 rfl ?_ | ((first | refine c5 (fun K hK => ?_) | refine d5 f8 (fun K hK => ?_) | fail); simp -implicitDefEqProofs; first | refine hK _ ?_ | refine hK _ _ (by rfl) ?_ | fail) | fail)
  refine l7 (ι := Nat) (fun k => s7 [(1, .v (.c (.ptr 0 0))), (2, .v (.c (.ptr 1 0))), (6, .v (.c (.ptr 2 0))), (7, vI (k : Nat))] [some (.box (ta (.mk x ml))), some zTb, some (.box [.pv (I x.k), .pv (I x.n), .pv (Sx ⟨#[]⟩), .row 3 6 ((o6 ml (ml.take k)).1.map tc), .pv (I x.f), .pv (I x.t)]), some (.row 25 6)]) (fun k => k ≤ j2) (fun k => ml.length - k) 0 (Nat.zero_le _) (by rw [p0]; exact f7 [0, 1, 17, 11] (by simp -implicitDefEqProofs) (by simp -implicitDefEqProofs) (by decide) rfl (by simp)) (fun Z hI k hk => ?_)
  by_cases hkl : k < ml.length; rotate_left
  · have e2 : k = ml.length := by omega
    have e3 := hfull (by omega)
    subst e2
    rw [List.take_length]
    have h4 : R = ⟨.mk ⟨x.k, x.n, ⟨#[]⟩, x.f, x.t⟩ (o6 ml ml).1, 0, 0⟩ := by rw [hr]; unfold b5z; rw [if_neg (by simpa using e3)]; rfl
    subst h4
    clear hr
    repeat (first | refine d4 ?_ | refine b8 ?_ | refine b7 ?_ | refine b9 ?_ | refine f5 rfl ?_ | refine d8 rfl ?_ | ((first | refine c5 (fun K hK => ?_) | refine d5 f8 (fun K hK => ?_) | fail); simp -implicitDefEqProofs; first | refine hK _ ?_ | refine hK _ _ (by rfl) ?_ | fail) | fail)
    refine d7 (d6 ?_); simp -implicitDefEqProofs [g8, f9, g7] <;> try rfl
  obtain ⟨⟨ax, al⟩, hy⟩ : ∃ a, ml[k]? = some a := ⟨_, List.getElem?_eq_getElem hkl⟩
  have hy' := (List.getElem?_eq_some_iff.1 hy).2
  have w2 : IntKind.i64.wrap ((k : Nat) + 1 : Int) = (k : Nat) + 1 := k9 _ (by omega) (by omega)
  have hkl' : (k : Int) < (ml.length : Nat) := by omega
  obtain ⟨s1, s2⟩ := hd _ (List.mem_of_getElem? hy)
  have hc := b5e x ml hml (.mk ax al) s1 s2
  have hz0 := c3e ml (.mk ax al)
  have hsn := a5z ml (.mk ax al) (ml.take k)
  rw [show ml.take k ++ [.mk ax al] = ml.take (k + 1) by rw [List.take_add_one, hy]; rfl, if_neg (by simpa using d1 k hk)] at hsn
  have hal := b2q ml (ml.take k) (d1 k hk)
  rw [List.length_take, Nat.min_eq_left (Nat.le_of_lt hkl)] at hal
  generalize (o6 ml (ml.take k)).1 = acc at hsn hal ⊢
  generalize a1m ml (.mk ax al) = g at hc hz0 hsn
  obtain ⟨⟨gx, gl⟩, gp, ge⟩ := g
  dsimp only at hz0 hsn
  by_cases hge : ge = 0
  · subst hge
    rw [if_neg (by simp)] at hsn
    have h3 : (o6 ml (ml.take (k + 1))).2.2 = 0 := by rw [hsn]
    have hij : k + 1 ≤ j2 := by
      by_cases c : k = j2
      · subst c; exact absurd h3 (d2 hkl).1
      · omega
    have b1 : (k + 1) * 72 ≤ 140737488355328 := by omega
    have b2 : k + 1 ≤ 140737488355328 := by omega
    clear d1 d2 hfull hr
    repeat' (first | refine d4 ?_ | refine b8 ?_ | refine b7 ?_ | refine b9 ?_ | refine f5 rfl ?_ | refine d8 rfl ?_ | ((first | refine c5 (fun K hK => ?_) | refine d5 f8 (fun K hK => ?_) | refine a9 (cp hc ?_) | refine a8 (dp hc ?_) | fail); simp -implicitDefEqProofs [hkl, hkl', hy, hy', hal, b1, b2, w2]) | refine hK _ ?_ | refine hK _ _ (by rfl) ?_ | fail)
    refine ⟨k + 1, hij, (by dsimp only; omega), ?_⟩
    rw [hI, hsn]; exact f7 [0, 1, 2, 89] (by simp -implicitDefEqProofs) (by simp -implicitDefEqProofs) (by decide) rfl (by simp)
  · rw [if_pos hge] at hsn
    have hkj : k = j2 := by
      by_cases c : k = j2
      · exact c
      · have := d1 (k + 1) (by omega)
        rw [hsn] at this
        exact absurd this hge
    have hq := (d2 (by omega)).2
    rw [← hkj, hsn] at hq
    have h4 : R = ⟨z0T, gp, ge⟩ := by rw [hr]; unfold b5z; rw [hq]; dsimp only; rw [if_pos hge]
    subst h4
    clear d1 d2 hfull hr hsn hq
    repeat' (first | refine d4 ?_ | refine b8 ?_ | refine b7 ?_ | refine b9 ?_ | refine f5 rfl ?_ | refine d8 rfl ?_ | ((first | refine c5 (fun K hK => ?_) | refine d5 f8 (fun K hK => ?_) | refine a9 (cp hc ?_) | refine a8 (dp hc ?_) | fail); simp -implicitDefEqProofs [hkl, hkl', hy, hy', hge]) | refine hK _ ?_ | refine hK _ _ (by rfl) ?_ | fail)
    refine d7 (d6 ?_); simp -implicitDefEqProofs [g8, f9, g7] <;> try rfl
end Go.Proofs.YthkfdheoakbfnaaGreat.am
end
section
namespace Go.Proofs.YthkfdheoakbfnaaGreat.vt
open Go.Proofs.YthkfdheoakbfnaaGreat.am
set_option linter.unusedVariables false
structure Tok where
  k : Int
  n : Int
  s : ByteArray
  f : Int
  t : Int
def kc (x : Tok) : List PV := [I x.k, I x.n, Sx x.s, I x.f, I x.t]
abbrev vK (x : Tok) : AV := .v (.agg [.pv (I x.k), .pv (I x.n), .pv (Sx x.s), .pv (I x.f), .pv (I x.t)])
abbrev vKs (l : List Tok) : AV := .v (.c (.pv (.sl 5 (l.map kc))))
def endK : Tok := ⟨5, 0, ⟨#[]⟩, 0, 0⟩
def nxt (ts : List Tok) (i : Nat) : Tok := match ts[i]? with | some x => x | none => endK
theorem y7 {ts : List Tok} {i : Nat} {x : Tok} (h : ts[i]? = some x) : nxt ts i = x := by unfold nxt; rw [h]
theorem a2f {ts : List Tok} {i : Nat} (h : ts.length ≤ i) : nxt ts i = endK := by unfold nxt; rw [List.getElem?_eq_none h]
def quo (s : ByteArray) : Int := match s.data.toList with | c :: _ => if 97 ≤ c.toNat ∧ c.toNat ≤ 122 then 3 else 4 | [] => 4
def isK (s : ByteArray) (x : Tok) : Bool := decide (x.k = quo s) && decide (x.s = s)
theorem b3m (s : ByteArray) : quo s = 3 ∨ quo s = 4 := by
  unfold quo; split
  · split
    · exact .inl rfl
    · exact .inr rfl
  · exact .inr rfl
theorem c57 (s : ByteArray) : isK s endK = false := by
  unfold isK endK
  rcases b3m s with h | h <;> rw [h] <;> rfl
theorem a6a {s : ByteArray} {ts : List Tok} {i : Nat} (h : isK s (nxt ts i) = true) : ∃ x, ts[i]? = some x ∧ isK s x = true := by
  unfold nxt at h
  cases hx : ts[i]? with
  | none => rw [hx] at h; dsimp only at h; rw [c57] at h; cases h
  | some x => rw [hx] at h; exact ⟨x, rfl, h⟩
def er (e : Int) : Int := if e = 0 then 6 else e
def frT (ts : List Tok) (i : Nat) : Int := (nxt ts i).f
def toT (ts : List Tok) (i : Nat) : Int := (nxt ts i).t
abbrev c2w : ByteArray := ⟨#[105, 110, 116]⟩
abbrev b0i : ByteArray := ⟨#[98, 111, 111, 108]⟩
abbrev t8 : ByteArray := ⟨#[91]⟩
abbrev t9 : ByteArray := ⟨#[93]⟩
def z0 : VT := .mk ⟨0, 0, ⟨#[]⟩, 0, 0⟩ []
def tyG (ts : List Tok) : Nat → Nat → VT × Nat × Int
  | 0, i => (z0, i, 6)
  | n + 1, i =>
    if isK c2w (nxt ts i) = true then (.mk ⟨1, 0, ⟨#[]⟩, frT ts i, toT ts i⟩ [], i + 1, 0)
    else if isK b0i (nxt ts i) = true then (.mk ⟨2, 0, ⟨#[]⟩, frT ts i, toT ts i⟩ [], i + 1, 0)
    else if isK t8 (nxt ts i) = true then
      if (nxt ts (i + 1)).k = 2 then
        if isK t9 (nxt ts (i + 2)) = true then
          if (tyG ts n (i + 3)).2.2 = 0 then (.mk ⟨3, (nxt ts (i + 1)).n, ⟨#[]⟩, frT ts i, toT ts ((tyG ts n (i + 3)).2.1 - 1)⟩ [(tyG ts n (i + 3)).1], (tyG ts n (i + 3)).2.1, 0)
          else tyG ts n (i + 3)
        else (z0, i + 2, 6)
      else (z0, i + 1, 6)
    else if (nxt ts i).k = 1 then (.mk ⟨4, 0, (nxt ts i).s, frT ts i, toT ts i⟩ [], i + 1, 0)
    else (z0, i, 6)
theorem b3y (ts : List Tok) : ∀ n i, ((tyG ts n i).2.2 = 0 → i < (tyG ts n i).2.1 ∧ (tyG ts n i).2.1 ≤ ts.length) ∧ ((tyG ts n i).2.2 ≠ 0 → (tyG ts n i).2.2 = 6 ∧ (tyG ts n i).1 = z0) ∧ (i ≤ ts.length → (tyG ts n i).2.1 ≤ ts.length) ∧ (tyG ts n i).1.size ≤ n + 1 := by
  have hlt : ∀ {s : ByteArray} {i : Nat}, isK s (nxt ts i) = true → i < ts.length := fun {s i} h => by
    obtain ⟨x, h1, _⟩ := a6a h
    exact (List.getElem?_eq_some_iff.1 h1).1
  have hlk : ∀ {k : Int} {i : Nat}, (nxt ts i).k = k → k ≠ 5 → i < ts.length := fun {k i} h hk => by
    rcases Nat.lt_or_ge i ts.length with h1 | h1
    · exact h1
    · rw [a2f h1] at h; exact absurd h.symm hk
  intro n
  induction n with
  | zero => intro i; simp [tyG, z0, Tr.size_mk]
  | succ n ih =>
    intro i
    unfold tyG
    split
    · rename_i h; have := hlt h; simp [Tr.size_mk]; omega
    · split
      · rename_i h; have := hlt h; simp [Tr.size_mk]; omega
      · split
        · rename_i h0
          have h0 := hlt h0
          split
          · rename_i h1
            have h1 := hlk h1 (by omega)
            split
            · rename_i h2
              have h2 := hlt h2
              obtain ⟨a1, a2, a3, a4⟩ := ih (i + 3)
              split
              · rename_i h3
                have := a1 h3
                simp [Tr.size_mk]; omega
              · rename_i h3
                exact ⟨fun h => absurd h h3, fun h => a2 h, fun h => a3 (by omega), by omega⟩
            · simp [z0, Tr.size_mk]; omega
          · simp [z0, Tr.size_mk]; omega
        · split
          · rename_i h; have := hlk h (by omega); simp [Tr.size_mk]; omega
          · simp [z0, Tr.size_mk]
end Go.Proofs.YthkfdheoakbfnaaGreat.vt
end
section
namespace Go.Proofs.YthkfdheoakbfnaaGreat.vt
open Go.Proofs.YthkfdheoakbfnaaGreat.am
set_option linter.unusedVariables false
abbrev Got := VT × Nat × Int
def opS (s : ByteArray) : Int × Nat :=
  if s = ⟨#[124, 124]⟩ then (1, 1) else if s = ⟨#[38, 38]⟩ then (2, 2) else if s = ⟨#[61, 61]⟩ then (3, 3) else if s = ⟨#[33, 61]⟩ then (4, 3) else if s = ⟨#[60]⟩ then (5, 3) else if s = ⟨#[60, 61]⟩ then (6, 3)
  else if s = ⟨#[62]⟩ then (7, 3) else if s = ⟨#[62, 61]⟩ then (8, 3) else if s = ⟨#[43]⟩ then (9, 4) else if s = ⟨#[45]⟩ then (10, 4) else if s = ⟨#[42]⟩ then (11, 5) else if s = ⟨#[47]⟩ then (12, 5) else if s = ⟨#[37]⟩ then (13, 5) else (0, 6)
def opK (x : Tok) : Int × Nat := if x.k = 4 then opS x.s else (0, 6)
def mk7 (ts : List Tok) (a b : Nat) (k n : Int) (s : ByteArray) (l : List VT) : Got := (.mk ⟨k, n, s, frT ts a, toT ts (b - 1)⟩ l, b, 0)
def n6 (i : Nat) : Got := (z0, i, 6)
abbrev l4 : ByteArray := ⟨#[40]⟩
abbrev l5 : ByteArray := ⟨#[41]⟩
abbrev sDot : ByteArray := ⟨#[46]⟩
abbrev a6k : ByteArray := ⟨#[44]⟩
abbrev sAt : ByteArray := ⟨#[64]⟩
abbrev b87 : ByteArray := ⟨#[45]⟩
abbrev c0g : ByteArray := ⟨#[33]⟩
abbrev a3f : ByteArray := ⟨#[116, 114, 117, 101]⟩
abbrev a3e : ByteArray := ⟨#[102, 97, 108, 115, 101]⟩
abbrev b96 : ByteArray := ⟨#[114, 101, 97, 100]⟩
abbrev c7e : ByteArray := ⟨#[110, 101, 119]⟩
section
variable (ts : List Tok)
def lpL (P : Nat → Got) (l a : Nat) : Nat → Bool → Got → Got
  | 0, _, x => x
  | m + 1, t, x => if x.2.2 ≠ 0 then x else if (opK (nxt ts x.2.1)).2 ≠ l ∨ (l = 3 ∧ t = true) then x
      else if (P (x.2.1 + 1)).2.2 ≠ 0 then P (x.2.1 + 1)
      else lpL P l a m true (mk7 ts a (P (x.2.1 + 1)).2.1 10 (opK (nxt ts x.2.1)).1 ⟨#[]⟩ [x.1, (P (x.2.1 + 1)).1])
def lpP (E : Nat → Got) (a : Nat) : Nat → Got → Got
  | 0, x => x
  | m + 1, x => if x.2.2 ≠ 0 then x else if isK t8 (nxt ts x.2.1) = true then
        if (E (x.2.1 + 1)).2.2 ≠ 0 then E (x.2.1 + 1)
        else if isK t9 (nxt ts (E (x.2.1 + 1)).2.1) = false then n6 (E (x.2.1 + 1)).2.1
        else lpP E a m (mk7 ts a ((E (x.2.1 + 1)).2.1 + 1) 12 0 ⟨#[]⟩ [x.1, (E (x.2.1 + 1)).1])
      else if isK sDot (nxt ts x.2.1) = true then
        if (nxt ts (x.2.1 + 1)).k ≠ 1 then n6 (x.2.1 + 1) else lpP E a m (mk7 ts a (x.2.1 + 2) 13 0 (nxt ts (x.2.1 + 1)).s [x.1])
      else x
def lpC (E : Nat → Got) : Nat → Nat → List VT → List VT × Nat × Int
  | 0, i, acc => (acc, i, 6)
  | m + 1, i, acc => if (E i).2.2 ≠ 0 then (acc, (E i).2.1, (E i).2.2) else if isK a6k (nxt ts (E i).2.1) = false then (acc ++ [(E i).1], (E i).2.1, 0) else lpC E m ((E i).2.1 + 1) (acc ++ [(E i).1])
def a0x (E : Nat → Got) (o : Nat) (few : Bool) (fs ls : ByteArray) : List VT × Nat × Int :=
  if isK fs (nxt ts o) = false then ([], o, 6) else if few = true ∧ isK ls (nxt ts (o + 1)) = true then ([], o + 2, 0)
  else if (lpC ts E (ts.length + 1) (o + 1) []).2.2 ≠ 0 then lpC ts E (ts.length + 1) (o + 1) []
  else if isK ls (nxt ts (lpC ts E (ts.length + 1) (o + 1) []).2.1) = false then ((lpC ts E (ts.length + 1) (o + 1) []).1, (lpC ts E (ts.length + 1) (o + 1) []).2.1, 6)
  else ((lpC ts E (ts.length + 1) (o + 1) []).1, (lpC ts E (ts.length + 1) (o + 1) []).2.1 + 1, 0)
def a0w (i : Nat) (k : Int) (s : ByteArray) (c : List VT × Nat × Int) : Got := if c.2.2 ≠ 0 then (z0, c.2.1, c.2.2) else mk7 ts i c.2.1 k 0 s c.1
def a61 (E : Nat → Got) (i : Nat) : Got :=
  if (nxt ts i).k = 1 then a0w ts i 16 (nxt ts i).s (a0x ts E (i + 1) true l4 l5)
  else if isK t8 (nxt ts i) = true then a0w ts i 14 ⟨#[]⟩ (a0x ts E i false t8 t9)
  else if isK sAt (nxt ts i) = true then if (nxt ts (i + 1)).k ≠ 1 then n6 (i + 1) else a0w ts i 17 (nxt ts (i + 1)).s (a0x ts E (i + 2) true l4 l5)
  else if isK c7e (nxt ts i) = true then if (nxt ts (i + 1)).k ≠ 1 then n6 (i + 1) else a0w ts i 15 (nxt ts (i + 1)).s (a0x ts E (i + 2) false l4 l5)
  else n6 i
def a8y (E : Nat → Got) (i : Nat) : Got :=
  if (nxt ts i).k = 2 then mk7 ts i (i + 1) 5 (nxt ts i).n ⟨#[]⟩ []
  else if isK a3f (nxt ts i) = true then mk7 ts i (i + 1) 6 1 ⟨#[]⟩ []
  else if isK a3e (nxt ts i) = true then mk7 ts i (i + 1) 6 0 ⟨#[]⟩ []
  else if isK b96 (nxt ts i) = true then mk7 ts i (i + 1) 18 0 ⟨#[]⟩ []
  else if (nxt ts i).k = 1 ∧ isK l4 (nxt ts (i + 1)) = false then mk7 ts i (i + 1) 19 0 (nxt ts i).s []
  else if isK l4 (nxt ts i) = true then
    if (E (i + 1)).2.2 ≠ 0 then E (i + 1) else if isK l5 (nxt ts (E (i + 1)).2.1) = false then n6 (E (i + 1)).2.1 else ((E (i + 1)).1, (E (i + 1)).2.1 + 1, 0)
  else a61 ts E i
def unN (i : Nat) : Int := if isK c0g (nxt ts i) = true then 2 else if isK b87 (nxt ts i) = true then 1 else 0
def bG (R : Nat → Nat → Got) (w i : Nat) : Got :=
  if w ≤ 5 then lpL ts (R (w + 1)) w i (ts.length + 1) false (R (w + 1) i)
  else if w = 6 then
    if unN ts i = 0 then R 7 i else if (R 6 (i + 1)).2.2 ≠ 0 then R 6 (i + 1) else mk7 ts i (R 6 (i + 1)).2.1 11 (unN ts i) ⟨#[]⟩ [(R 6 (i + 1)).1]
  else if w = 7 then lpP ts (R 1) i (ts.length + 1) (R 8 i)
  else a8y ts (R 1) i
def pG : Nat → Nat → Nat → Got
  | 0, _, i => n6 i
  | n + 1, w, i => bG ts (pG n) w i
end
section
variable {ts : List Tok}
structure OkG (ts : List Tok) (i : Nat) (x : Got) : Prop where
  yes : x.2.2 = 0 → i < x.2.1 ∧ x.2.1 ≤ ts.length
  no : x.2.2 ≠ 0 → x.2.2 = 6 ∧ x.1 = z0
  le : i ≤ ts.length → i ≤ x.2.1 ∧ x.2.1 ≤ ts.length
theorem g9 {s : ByteArray} {i : Nat} (h : isK s (nxt ts i) = true) : i < ts.length := by
  obtain ⟨x, h1, _⟩ := a6a h
  exact (List.getElem?_eq_some_iff.1 h1).1
theorem z4 {k : Int} {i : Nat} (h : (nxt ts i).k = k) (hk : k ≠ 5) : i < ts.length := by
  rcases Nat.lt_or_ge i ts.length with h1 | h1
  · exact h1
  · rw [a2f h1] at h; exact absurd h.symm hk
theorem b4v {l i : Nat} (h : (opK (nxt ts i)).2 = l) (hl : l ≤ 5) : i < ts.length := by
  rcases Nat.lt_or_ge i ts.length with h1 | h1
  · exact h1
  · rw [a2f h1] at h
    have : (opK endK).2 = 6 := rfl
    omega
theorem a3h {i j : Nat} (h : i ≤ ts.length → i ≤ j ∧ j ≤ ts.length) : OkG ts i (n6 j) := ⟨fun h => by simp [n6] at h, fun _ => ⟨rfl, rfl⟩, h⟩
theorem t5 {i b : Nat} {k n : Int} {s : ByteArray} {l : List VT} (h : i < b) (hb : b ≤ ts.length) : OkG ts i (mk7 ts i b k n s l) := ⟨fun _ => ⟨h, hb⟩, fun h => absurd rfl h, fun _ => ⟨Nat.le_of_lt h, hb⟩⟩
theorem c3v {P : Nat → Got} {l a : Nat} (hl : l ≤ 5) (hP : ∀ j, j ≤ ts.length → OkG ts j (P j)) : ∀ (m : Nat) (t : Bool) (x : Got), OkG ts a x → OkG ts a (lpL ts P l a m t x)
  | 0, t, x, hx => hx
  | m + 1, t, x, hx => by
    unfold lpL
    split
    · exact hx
    · rename_i h0
      have h0 : x.2.2 = 0 := by simpa using h0
      split
      · exact hx
      · rename_i h1
        have h1 : (opK (nxt ts x.2.1)).2 = l := by simpa using (not_or.1 h1).1
        have hlt := b4v h1 hl
        have hp := hP (x.2.1 + 1) (by omega)
        have hy := hx.yes h0
        split
        · rename_i h2
          exact ⟨fun h => absurd h h2, hp.no, fun _ => by have := hp.le (by omega); omega⟩
        · rename_i h2
          have h2 : (P (x.2.1 + 1)).2.2 = 0 := by simpa using h2
          have := hp.yes h2
          exact c3v hl hP m true _ (t5 (by omega) this.2)
theorem a9j {P P' : Nat → Got} {l a : Nat} (hl : l ≤ 5) (hP : ∀ j, j ≤ ts.length → OkG ts j (P j)) (he : ∀ j, a < j → j ≤ ts.length → P j = P' j) : ∀ (m : Nat) (t : Bool) (x : Got), OkG ts a x → lpL ts P l a m t x = lpL ts P' l a m t x
  | 0, t, x, hx => rfl
  | m + 1, t, x, hx => by
    unfold lpL
    split
    · rfl
    · rename_i h0
      have h0 : x.2.2 = 0 := by simpa using h0
      split
      · rfl
      · rename_i h1
        have h1 : (opK (nxt ts x.2.1)).2 = l := by simpa using (not_or.1 h1).1
        have hlt := b4v h1 hl
        have hy := hx.yes h0
        have hp := hP (x.2.1 + 1) (by omega)
        rw [← he (x.2.1 + 1) (by omega) (by omega)]
        split
        · rfl
        · rename_i h2
          have h2 : (P (x.2.1 + 1)).2.2 = 0 := by simpa using h2
          have := hp.yes h2
          exact a9j hl hP he m true _ (t5 (by omega) this.2)
theorem b7y {E : Nat → Got} {a : Nat} (hE : ∀ j, j ≤ ts.length → OkG ts j (E j)) : ∀ (m : Nat) (x : Got), OkG ts a x → OkG ts a (lpP ts E a m x)
  | 0, x, hx => hx
  | m + 1, x, hx => by
    unfold lpP
    split
    · exact hx
    · rename_i h0
      have h0 : x.2.2 = 0 := by simpa using h0
      have hy := hx.yes h0
      split
      · rename_i h1
        have hlt := g9 h1
        have hp := hE (x.2.1 + 1) (by omega)
        split
        · rename_i h2
          exact ⟨fun h => absurd h h2, hp.no, fun _ => by have := hp.le (by omega); omega⟩
        · rename_i h2
          have h2 : (E (x.2.1 + 1)).2.2 = 0 := by simpa using h2
          have hyy := hp.yes h2
          split
          · exact a3h (fun _ => by omega)
          · rename_i h3
            have := g9 (s := t9) (ts := ts) (by simpa using h3)
            exact b7y hE m _ (t5 (by omega) (by omega))
      · split
        · rename_i h1
          have hlt := g9 h1
          split
          · exact a3h (fun _ => by omega)
          · rename_i h3
            have := z4 (ts := ts) (k := 1) (by simpa using h3) (by decide)
            exact b7y hE m _ (t5 (by omega) (by omega))
        · exact hx
theorem a4p {E E' : Nat → Got} {a : Nat} (hE : ∀ j, j ≤ ts.length → OkG ts j (E j)) (he : ∀ j, a < j → j ≤ ts.length → E j = E' j) : ∀ (m : Nat) (x : Got), OkG ts a x → lpP ts E a m x = lpP ts E' a m x
  | 0, x, hx => rfl
  | m + 1, x, hx => by
    unfold lpP
    split
    · rfl
    · rename_i h0
      have h0 : x.2.2 = 0 := by simpa using h0
      have hy := hx.yes h0
      split
      · rename_i h1
        have hlt := g9 h1
        have hp := hE (x.2.1 + 1) (by omega)
        rw [← he (x.2.1 + 1) (by omega) (by omega)]
        split
        · rfl
        · rename_i h2
          have h2 : (E (x.2.1 + 1)).2.2 = 0 := by simpa using h2
          have hyy := hp.yes h2
          split
          · rfl
          · rename_i h3
            have := g9 (s := t9) (ts := ts) (by simpa using h3)
            exact a4p hE he m _ (t5 (by omega) (by omega))
      · split
        · rename_i h1
          have hlt := g9 h1
          split
          · rfl
          · rename_i h3
            have := z4 (ts := ts) (k := 1) (by simpa using h3) (by decide)
            exact a4p hE he m _ (t5 (by omega) (by omega))
        · rfl
structure OkC (ts : List Tok) (i : Nat) (x : List VT × Nat × Int) : Prop where
  le : i ≤ x.2.1 ∧ x.2.1 ≤ ts.length
  yes : x.2.2 = 0 → i < x.2.1
  no : x.2.2 ≠ 0 → x.2.2 = 6
theorem a9i {E : Nat → Got} (hE : ∀ j, j ≤ ts.length → OkG ts j (E j)) : ∀ (m i : Nat) (acc : List VT), i ≤ ts.length → OkC ts i (lpC ts E m i acc)
  | 0, i, acc, hi => ⟨⟨Nat.le_refl _, hi⟩, fun h => by simp [lpC] at h, fun _ => rfl⟩
  | m + 1, i, acc, hi => by
    unfold lpC
    have hp := hE i hi
    split
    · rename_i h; exact ⟨hp.le hi, fun h' => absurd h' h, fun _ => (hp.no h).1⟩
    · rename_i h
      have h : (E i).2.2 = 0 := by simpa using h
      have hy := hp.yes h
      split
      · exact ⟨⟨by dsimp only; omega, hy.2⟩, fun _ => hy.1, fun h => absurd rfl h⟩
      · rename_i h3
        have hlt := g9 (s := a6k) (ts := ts) (by simpa using h3)
        have := a9i hE m ((E i).2.1 + 1) (acc ++ [(E i).1]) (by omega)
        exact ⟨⟨by have := this.le; omega, this.le.2⟩, fun h => by have := this.yes h; omega, this.no⟩
theorem a9h {E E' : Nat → Got} {a : Nat} (hE : ∀ j, j ≤ ts.length → OkG ts j (E j)) (he : ∀ j, a < j → j ≤ ts.length → E j = E' j) : ∀ (m i : Nat) (acc : List VT), a < i → i ≤ ts.length → lpC ts E m i acc = lpC ts E' m i acc
  | 0, i, acc, _, _ => rfl
  | m + 1, i, acc, ha, hi => by
    unfold lpC
    rw [← he i ha hi]
    split
    · rfl
    · rename_i h
      have h : (E i).2.2 = 0 := by simpa using h
      have hy := (hE i hi).yes h
      split
      · rfl
      · rename_i h3
        have hlt := g9 (s := a6k) (ts := ts) (by simpa using h3)
        exact a9h hE he m _ _ (by omega) (by omega)
theorem t1 {E : Nat → Got} (hE : ∀ j, j ≤ ts.length → OkG ts j (E j)) {o : Nat} (few : Bool) (fs ls : ByteArray) (ho : o ≤ ts.length) : OkC ts o (a0x ts E o few fs ls) := by
  unfold a0x
  split
  · exact ⟨⟨Nat.le_refl _, ho⟩, fun h => by simp at h, fun _ => rfl⟩
  · rename_i h0
    have h0 := g9 (s := fs) (ts := ts) (by simpa using h0)
    split
    · rename_i h1
      have h1 := g9 h1.2
      exact ⟨⟨by dsimp only; omega, by dsimp only; omega⟩, fun _ => by dsimp only; omega, fun h => absurd rfl h⟩
    · have hc := a9i hE (ts.length + 1) (o + 1) [] (by omega)
      split
      · exact ⟨⟨by have := hc.le; omega, hc.le.2⟩, fun h => by have := hc.yes h; omega, hc.no⟩
      · rename_i h2
        split
        · exact ⟨⟨by have := hc.le; dsimp only; omega, hc.le.2⟩, fun h => by simp at h, fun _ => rfl⟩
        · rename_i h3
          have := g9 (s := ls) (ts := ts) (by simpa using h3)
          exact ⟨⟨by have := hc.le; dsimp only; omega, by dsimp only; omega⟩, fun _ => by have := hc.le; dsimp only; omega, fun h => absurd rfl h⟩
theorem a1a {E E' : Nat → Got} {a : Nat} (hE : ∀ j, j ≤ ts.length → OkG ts j (E j)) (he : ∀ j, a < j → j ≤ ts.length → E j = E' j) {o : Nat} (few : Bool) (fs ls : ByteArray) (ho : a ≤ o) : a0x ts E o few fs ls = a0x ts E' o few fs ls := by
  unfold a0x
  split
  · rfl
  · rename_i h0
    have h0 := g9 (s := fs) (ts := ts) (by simpa using h0)
    rw [a9h hE he (ts.length + 1) (o + 1) [] (by omega) (by omega)]
theorem a52 {i o : Nat} {k : Int} {s : ByteArray} {c : List VT × Nat × Int} (h : OkC ts o c) (ho : i ≤ o) : OkG ts i (a0w ts i k s c) := by
  unfold a0w
  split
  · rename_i h0; exact ⟨fun h' => absurd h' h0, fun _ => ⟨h.no h0, rfl⟩, fun _ => by have := h.le; dsimp only; omega⟩
  · rename_i h0
    exact t5 (by have := h.yes (by simpa using h0); omega) h.le.2
theorem c5m {E : Nat → Got} (hE : ∀ j, j ≤ ts.length → OkG ts j (E j)) (i : Nat) (hi : i ≤ ts.length) : OkG ts i (a61 ts E i) := by
  unfold a61
  split
  · rename_i h; have := z4 h (by decide); exact a52 (t1 hE true l4 l5 (by omega)) (by omega)
  · split
    · rename_i h; have := g9 h; exact a52 (t1 hE false t8 t9 (by omega)) (by omega)
    · split
      · rename_i h; have := g9 h
        split
        · exact a3h (fun _ => by omega)
        · rename_i h2; have := z4 (ts := ts) (k := 1) (by simpa using h2) (by decide)
          exact a52 (t1 hE true l4 l5 (by omega)) (by omega)
      · split
        · rename_i h; have := g9 h
          split
          · exact a3h (fun _ => by omega)
          · rename_i h2; have := z4 (ts := ts) (k := 1) (by simpa using h2) (by decide)
            exact a52 (t1 hE false l4 l5 (by omega)) (by omega)
        · exact a3h (fun _ => by omega)
theorem b4g {E E' : Nat → Got} {i : Nat} (hE : ∀ j, j ≤ ts.length → OkG ts j (E j)) (he : ∀ j, i < j → j ≤ ts.length → E j = E' j) : a61 ts E i = a61 ts E' i := by
  unfold a61
  rw [a1a hE he true l4 l5 (show i ≤ i + 1 by omega), a1a hE he false t8 t9 (Nat.le_refl i), a1a hE he true l4 l5 (show i ≤ i + 2 by omega), a1a hE he false l4 l5 (show i ≤ i + 2 by omega)]
theorem c5b {E : Nat → Got} (hE : ∀ j, j ≤ ts.length → OkG ts j (E j)) (i : Nat) (hi : i ≤ ts.length) : OkG ts i (a8y ts E i) := by
  unfold a8y
  split
  · rename_i h; have := z4 h (by decide); exact t5 (by omega) (by omega)
  split
  · rename_i h; have := g9 h; exact t5 (by omega) (by omega)
  split
  · rename_i h; have := g9 h; exact t5 (by omega) (by omega)
  split
  · rename_i h; have := g9 h; exact t5 (by omega) (by omega)
  split
  · rename_i h; have := z4 h.1 (by decide); exact t5 (by omega) (by omega)
  split
  · rename_i h
    have := g9 h
    have hp := hE (i + 1) (by omega)
    split
    · rename_i h2; exact ⟨fun h => absurd h h2, hp.no, fun _ => by have := hp.le (by omega); omega⟩
    · rename_i h2
      have hy := hp.yes (by simpa using h2)
      split
      · exact a3h (fun _ => by omega)
      · rename_i h3
        have := g9 (s := l5) (ts := ts) (by simpa using h3)
        exact ⟨fun _ => by dsimp only; omega, fun h => absurd rfl h, fun _ => by dsimp only; omega⟩
  · exact c5m hE i hi
theorem b4e {E E' : Nat → Got} {i : Nat} (hE : ∀ j, j ≤ ts.length → OkG ts j (E j)) (he : ∀ j, i < j → j ≤ ts.length → E j = E' j) : a8y ts E i = a8y ts E' i := by
  unfold a8y
  rw [b4g hE he]
  by_cases h : isK l4 (nxt ts i) = true
  · have := g9 h
    rw [he (i + 1) (by omega) (by omega)]
  · simp only [h, if_false, Bool.false_eq_true]
theorem bG_ok {R : Nat → Nat → Got} (hR : ∀ w j, j ≤ ts.length → OkG ts j (R w j)) (w i : Nat) (hi : i ≤ ts.length) : OkG ts i (bG ts R w i) := by
  unfold bG
  split
  · rename_i h; exact c3v h (hR _) _ _ _ (hR _ i hi)
  split
  · split
    · exact hR 7 i hi
    · rename_i h
      have hlt : i < ts.length := by
        unfold unN at h
        by_cases h1 : isK c0g (nxt ts i) = true
        · exact g9 h1
        · by_cases h2 : isK b87 (nxt ts i) = true
          · exact g9 h2
          · simp [h1, h2] at h
      have hp := hR 6 (i + 1) (by omega)
      split
      · rename_i h2; exact ⟨fun h => absurd h h2, hp.no, fun _ => by have := hp.le (by omega); omega⟩
      · rename_i h2
        have hy := hp.yes (by simpa using h2)
        exact t5 (by omega) hy.2
  split
  · exact b7y (hR 1) _ _ (hR 8 i hi)
  · exact c5b (hR 1) i hi
theorem b1p : ∀ (n w i : Nat), i ≤ ts.length → OkG ts i (pG ts n w i)
  | 0, w, i, hi => a3h (fun _ => ⟨Nat.le_refl _, hi⟩)
  | n + 1, w, i, hi => bG_ok (b1p n) w i hi
def me (ts : List Tok) (w i : Nat) : Nat := 9 * (ts.length - i) + (9 - w)
theorem b2h {R R' : Nat → Nat → Got} (hR : ∀ w j, j ≤ ts.length → OkG ts j (R w j)) {w i : Nat} (hi : i ≤ ts.length) (hw : w ≤ 8) (he : ∀ w' j, w' ≤ 8 → 1 ≤ w' → j ≤ ts.length → me ts w' j < me ts w i → R w' j = R' w' j) : bG ts R w i = bG ts R' w i := by
  have far : ∀ w' j, w' ≤ 8 → 1 ≤ w' → i < j → j ≤ ts.length → R w' j = R' w' j := fun w' j h0 h1 h2 h3 => he w' j h0 h1 h3 (by unfold me; omega)
  unfold bG
  split
  · rename_i h
    rw [a9j h (hR _) (fun j h1 h2 => far (w + 1) j (by omega) (by omega) h1 h2) _ _ _ (hR _ i hi), he (w + 1) i (by omega) (by omega) hi (by unfold me; omega)]
  split
  · rename_i h
    subst h
    rw [he 7 i (by omega) (by omega) hi (by unfold me; omega)]
    split
    · rfl
    · rename_i h
      have hlt : i < ts.length := by
        unfold unN at h
        by_cases h1 : isK c0g (nxt ts i) = true
        · exact g9 h1
        · by_cases h2 : isK b87 (nxt ts i) = true
          · exact g9 h2
          · simp [h1, h2] at h
      rw [far 6 (i + 1) (by omega) (by omega) (by omega) (by omega)]
  split
  · rename_i h
    subst h
    rw [a4p (hR 1) (fun j h1 h2 => far 1 j (by omega) (by omega) h1 h2) _ _ (hR 8 i hi), he 8 i (by omega) (by omega) hi (by unfold me; omega)]
  · exact b4e (hR 1) (fun j h1 h2 => far 1 j (by omega) (by omega) h1 h2)
theorem c4a : ∀ (n n' w i : Nat), i ≤ ts.length → 1 ≤ w → w ≤ 8 → me ts w i < n → me ts w i < n' → pG ts n w i = pG ts n' w i
  | 0, _, _, _, _, _, _, h, _ => by omega
  | _ + 1, 0, _, _, _, _, _, _, h => by omega
  | n + 1, n' + 1, w, i, hi, h1, hw, hn, hn' => by
    show bG ts (pG ts n) w i = bG ts (pG ts n') w i
    exact b2h (b1p n) hi hw (fun w' j h1 h2 h3 h4 => c4a n n' w' j h3 h2 h1 (by omega) (by omega))
def Qx (ts : List Tok) (w i : Nat) : Got := pG ts (9 * ts.length + 10) w i
theorem b4d (w i : Nat) (hi : i ≤ ts.length) : OkG ts i (Qx ts w i) := b1p _ w i hi
theorem Q_eq (w i : Nat) (h1 : 1 ≤ w) (hw : w ≤ 8) (hi : i ≤ ts.length) : Qx ts w i = bG ts (Qx ts) w i := by
  show bG ts (pG ts (9 * ts.length + 9)) w i = _
  exact b2h (b1p _) hi hw (fun w' j h1 h2 h3 h4 => c4a _ _ w' j h3 h2 h1 (by unfold me; omega) (by unfold me; omega))
end
end Go.Proofs.YthkfdheoakbfnaaGreat.vt
end
section
namespace Go.Proofs.YthkfdheoakbfnaaGreat.vt
open Go.Proofs.YthkfdheoakbfnaaGreat.am
set_option linter.unusedVariables false
section
variable {ts : List Tok}
noncomputable def sm (l : List VT) : Nat := (l.map Tr.size).sum
def Sz (i : Nat) (x : Got) : Prop := x.2.2 = 0 → x.1.size + i ≤ x.2.1
theorem a3c {i b : Nat} {k n : Int} {s : ByteArray} {l : List VT} (h : sm l + i < b) : Sz i (mk7 ts i b k n s l) := fun _ => by
  show Tr.size (Tr.mk _ l) + i ≤ b
  rw [Tr.size_mk]
  unfold sm at h
  omega
theorem sm1 (a : VT) : sm [a] = a.size := by simp [sm]
theorem sm2 (a b : VT) : sm [a, b] = a.size + b.size := by simp [sm]
theorem w9 (l : List VT) (a : VT) : sm (l ++ [a]) = sm l + a.size := by simp [sm]
theorem c3w {P : Nat → Got} {l a : Nat} (hl : l ≤ 5) (hP : ∀ j, j ≤ ts.length → OkG ts j (P j)) (hS : ∀ j, j ≤ ts.length → Sz j (P j)) : ∀ (m : Nat) (t : Bool) (x : Got), OkG ts a x → Sz a x → Sz a (lpL ts P l a m t x)
  | 0, t, x, hx, hs => hs
  | m + 1, t, x, hx, hs => by
    unfold lpL
    split
    · exact hs
    · rename_i h0
      have h0 : x.2.2 = 0 := by simpa using h0
      split
      · exact hs
      · rename_i h1
        have h1 : (opK (nxt ts x.2.1)).2 = l := by simpa using (not_or.1 h1).1
        have hlt := b4v h1 hl
        have hp := hP (x.2.1 + 1) (by omega)
        have hy := hx.yes h0
        split
        · rename_i h2; exact fun h => absurd h h2
        · rename_i h2
          have h2 : (P (x.2.1 + 1)).2.2 = 0 := by simpa using h2
          have := hp.yes h2
          have q1 := hS (x.2.1 + 1) (by omega) h2
          have q2 := hs h0
          exact c3w hl hP hS m true _ (t5 (by omega) this.2) (a3c (by rw [sm2]; omega))
theorem b7z {E : Nat → Got} {a : Nat} (hE : ∀ j, j ≤ ts.length → OkG ts j (E j)) (hS : ∀ j, j ≤ ts.length → Sz j (E j)) : ∀ (m : Nat) (x : Got), OkG ts a x → Sz a x → Sz a (lpP ts E a m x)
  | 0, x, hx, hs => hs
  | m + 1, x, hx, hs => by
    unfold lpP
    split
    · exact hs
    · rename_i h0
      have h0 : x.2.2 = 0 := by simpa using h0
      have hy := hx.yes h0
      have q2 := hs h0
      split
      · rename_i h1
        have hlt := g9 h1
        have hp := hE (x.2.1 + 1) (by omega)
        split
        · rename_i h2; exact fun h => absurd h h2
        · rename_i h2
          have h2 : (E (x.2.1 + 1)).2.2 = 0 := by simpa using h2
          have hyy := hp.yes h2
          have q1 := hS (x.2.1 + 1) (by omega) h2
          split
          · exact fun h => by simp [n6] at h
          · rename_i h3
            have := g9 (s := t9) (ts := ts) (by simpa using h3)
            exact b7z hE hS m _ (t5 (by omega) (by omega)) (a3c (by rw [sm2]; omega))
      · split
        · rename_i h1
          have hlt := g9 h1
          split
          · exact fun h => by simp [n6] at h
          · rename_i h3
            have := z4 (ts := ts) (k := 1) (by simpa using h3) (by decide)
            exact b7z hE hS m _ (t5 (by omega) (by omega)) (a3c (by rw [sm1]; omega))
        · exact hs
def Sc (i : Nat) (x : List VT × Nat × Int) : Prop := x.2.2 = 0 → sm x.1 + i ≤ x.2.1
theorem c3r {E : Nat → Got} (hE : ∀ j, j ≤ ts.length → OkG ts j (E j)) (hS : ∀ j, j ≤ ts.length → Sz j (E j)) (i0 : Nat) : ∀ (m i : Nat) (acc : List VT), i ≤ ts.length → sm acc + i0 ≤ i → Sc i0 (lpC ts E m i acc)
  | 0, i, acc, hi, _ => fun h => by simp [lpC] at h
  | m + 1, i, acc, hi, ha => by
    unfold lpC
    have hp := hE i hi
    split
    · rename_i h; exact fun h' => absurd h' h
    · rename_i h
      have h : (E i).2.2 = 0 := by simpa using h
      have hy := hp.yes h
      have q := hS i hi h
      split
      · exact fun _ => by show sm (acc ++ [(E i).1]) + i0 ≤ (E i).2.1; rw [w9]; omega
      · rename_i h3
        have hlt := g9 (s := a6k) (ts := ts) (by simpa using h3)
        exact c3r hE hS i0 m ((E i).2.1 + 1) (acc ++ [(E i).1]) (by omega) (by rw [w9]; omega)
theorem a4b {E : Nat → Got} (hE : ∀ j, j ≤ ts.length → OkG ts j (E j)) (hS : ∀ j, j ≤ ts.length → Sz j (E j)) {o : Nat} (few : Bool) (fs ls : ByteArray) (ho : o ≤ ts.length) : (a0x ts E o few fs ls).2.2 = 0 → sm (a0x ts E o few fs ls).1 + o < (a0x ts E o few fs ls).2.1 := by
  unfold a0x
  split
  · exact fun h => by simp at h
  · rename_i h0
    have h0 := g9 (s := fs) (ts := ts) (by simpa using h0)
    split
    · exact fun _ => by show 0 + o < o + 2; omega
    · have hc := c3r hE hS (o + 1) (ts.length + 1) (o + 1) [] (by omega) (by show 0 + (o + 1) ≤ o + 1; omega)
      split
      · rename_i h; exact fun h' => absurd h' h
      · rename_i h2
        have h2 : (lpC ts E (ts.length + 1) (o + 1) []).2.2 = 0 := by simpa using h2
        have := hc h2
        split
        · exact fun h => by simp at h
        · exact fun _ => by dsimp only; omega
theorem a54 {i o : Nat} {k : Int} {s : ByteArray} {c : List VT × Nat × Int} (h : c.2.2 = 0 → sm c.1 + o < c.2.1) (ho : i ≤ o) : Sz i (a0w ts i k s c) := by
  unfold a0w
  split
  · rename_i h0; exact fun h' => absurd h' h0
  · rename_i h0
    have := h (by simpa using h0)
    exact a3c (by omega)
theorem a95 {i j : Nat} : Sz i (n6 j) := fun h => by simp [n6] at h
theorem c5o {E : Nat → Got} (hE : ∀ j, j ≤ ts.length → OkG ts j (E j)) (hS : ∀ j, j ≤ ts.length → Sz j (E j)) (i : Nat) (hi : i ≤ ts.length) : Sz i (a61 ts E i) := by
  unfold a61
  split
  · rename_i h; have := z4 h (by decide); exact a54 (a4b hE hS true l4 l5 (by omega)) (by omega)
  split
  · rename_i h; have := g9 h; exact a54 (a4b hE hS false t8 t9 (by omega)) (by omega)
  split
  · rename_i h; have := g9 h
    split
    · exact a95
    · rename_i h2; have := z4 (ts := ts) (k := 1) (by simpa using h2) (by decide)
      exact a54 (a4b hE hS true l4 l5 (by omega)) (by omega)
  split
  · rename_i h; have := g9 h
    split
    · exact a95
    · rename_i h2; have := z4 (ts := ts) (k := 1) (by simpa using h2) (by decide)
      exact a54 (a4b hE hS false l4 l5 (by omega)) (by omega)
  · exact a95
theorem c5d {E : Nat → Got} (hE : ∀ j, j ≤ ts.length → OkG ts j (E j)) (hS : ∀ j, j ≤ ts.length → Sz j (E j)) (i : Nat) (hi : i ≤ ts.length) : Sz i (a8y ts E i) := by
  have s0 : sm ([] : List VT) = 0 := rfl
  unfold a8y
  split
  · exact a3c (by omega)
  split
  · exact a3c (by omega)
  split
  · exact a3c (by omega)
  split
  · exact a3c (by omega)
  split
  · exact a3c (by omega)
  split
  · rename_i h
    have := g9 h
    split
    · rename_i h2; exact fun h => absurd h h2
    · rename_i h2
      have q := hS (i + 1) (by omega) (by simpa using h2)
      split
      · exact a95
      · exact fun _ => by dsimp only; omega
  · exact c5o hE hS i hi
theorem bG_sz {R : Nat → Nat → Got} (hR : ∀ w j, j ≤ ts.length → OkG ts j (R w j)) (hS : ∀ w j, j ≤ ts.length → Sz j (R w j)) (w i : Nat) (hi : i ≤ ts.length) : Sz i (bG ts R w i) := by
  unfold bG
  split
  · rename_i h; exact c3w h (hR _) (hS _) _ _ _ (hR _ i hi) (hS _ i hi)
  split
  · split
    · exact hS 7 i hi
    · rename_i h
      have hlt : i < ts.length := by
        unfold unN at h
        by_cases h1 : isK c0g (nxt ts i) = true
        · exact g9 h1
        · by_cases h2 : isK b87 (nxt ts i) = true
          · exact g9 h2
          · simp [h1, h2] at h
      split
      · rename_i h2; exact fun h => absurd h h2
      · rename_i h2
        have q := hS 6 (i + 1) (by omega) (by simpa using h2)
        exact a3c (by rw [sm1]; omega)
  split
  · exact b7z (hR 1) (hS 1) _ _ (hR 8 i hi) (hS 8 i hi)
  · exact c5d (hR 1) (hS 1) i hi
theorem pG_sz : ∀ (n w i : Nat), i ≤ ts.length → Sz i (pG ts n w i)
  | 0, w, i, hi => a95
  | n + 1, w, i, hi => bG_sz (b1p n) (pG_sz n) w i hi
end
end Go.Proofs.YthkfdheoakbfnaaGreat.vt
end
section
namespace Go.Proofs.YthkfdheoakbfnaaGreat.vt
open Go.Proofs.YthkfdheoakbfnaaGreat.am
set_option linter.unusedVariables false
abbrev c2x : ByteArray := ⟨#[108, 101, 116]⟩
abbrev wIf : ByteArray := ⟨#[105, 102]⟩
abbrev a79 : ByteArray := ⟨#[101, 108, 115, 101]⟩
abbrev b2c : ByteArray := ⟨#[119, 104, 105, 108, 101]⟩
abbrev c7d : ByteArray := ⟨#[102, 111, 114]⟩
abbrev wTo : ByteArray := ⟨#[116, 111]⟩
abbrev b2b : ByteArray := ⟨#[112, 114, 105, 110, 116]⟩
abbrev c7g : ByteArray := ⟨#[114, 101, 116, 117, 114, 110]⟩
abbrev wDo : ByteArray := ⟨#[100, 111]⟩
abbrev a8g : ByteArray := ⟨#[123]⟩
abbrev a90 : ByteArray := ⟨#[125]⟩
abbrev a1p : ByteArray := ⟨#[58]⟩
abbrev sIs : ByteArray := ⟨#[61]⟩
abbrev a04 : ByteArray := ⟨#[59]⟩
inductive It where
  | sgn (s : ByteArray)
  | nam
  | sub (w : Nat)
  | els
section
variable (ts : List Tok)
def b1g (i : Nat) : Int × List It :=
  if isK c2x (nxt ts i) = true then
    if (nxt ts (i + 1)).k = 1 ∧ isK a1p (nxt ts (i + 2)) = true then (21, [.sgn c2x, .nam, .sgn a1p, .sub 1, .sgn a04])
    else (20, [.sgn c2x, .nam, .sgn sIs, .sub 0, .sgn a04])
  else if isK wIf (nxt ts i) = true then (23, [.sgn wIf, .sub 0, .sub 2, .els])
  else if isK b2c (nxt ts i) = true then (24, [.sgn b2c, .sub 0, .sub 2])
  else if isK c7d (nxt ts i) = true then (25, [.sgn c7d, .nam, .sgn sIs, .sub 0, .sgn wTo, .sub 0, .sub 2])
  else if isK b2b (nxt ts i) = true then (26, [.sgn b2b, .sub 0, .sgn a04])
  else if isK c7g (nxt ts i) = true then (27, [.sgn c7g, .sub 0, .sgn a04])
  else if isK wDo (nxt ts i) = true then (28, [.sgn wDo, .sub 0, .sgn a04])
  else (22, [.sub 0, .sgn sIs, .sub 0, .sgn a04])
def emB (zto : Nat) : VT := .mk ⟨29, 0, ⟨#[]⟩, toT ts (zto - 1), toT ts (zto - 1)⟩ []
def itH (R : Nat → Nat → Got) (a : Nat) (k n : Int) : List It → Nat → ByteArray → List VT → Got
  | [], zto, s, ps => mk7 ts a zto k n s ps
  | .sgn x :: l, zto, s, ps => if isK x (nxt ts zto) = true then itH R a k n l (zto + 1) s ps else n6 zto
  | .nam :: l, zto, s, ps => if (nxt ts zto).k = 1 then itH R a k n l (zto + 1) (nxt ts zto).s ps else n6 zto
  | .sub w :: l, zto, s, ps => if (R w zto).2.2 = 0 then itH R a k n l (R w zto).2.1 s (ps ++ [(R w zto).1]) else R w zto
  | .els :: l, zto, s, ps => if isK a79 (nxt ts zto) = true then if (R 2 (zto + 1)).2.2 = 0 then itH R a k n l (R 2 (zto + 1)).2.1 s (ps ++ [(R 2 (zto + 1)).1]) else R 2 (zto + 1) else itH R a k n l zto s (ps ++ [emB ts zto])
def lpB (S : Nat → Got) (a : Nat) : Nat → Nat → List VT → Got
  | 0, zto, acc => n6 zto
  | m + 1, zto, acc => if isK a90 (nxt ts zto) = true then mk7 ts a (zto + 1) 29 0 ⟨#[]⟩ acc else if (S zto).2.2 = 0 then lpB S a m (S zto).2.1 (acc ++ [(S zto).1]) else S zto
def blG (S : Nat → Got) (i : Nat) : Got := if isK a8g (nxt ts i) = true then lpB ts S i (ts.length + 1) (i + 1) [] else n6 i
def RR (S : Nat → Got) (w i : Nat) : Got := if w = 0 then Qx ts 1 i else if w = 1 then tyG ts (ts.length + 1) i else blG ts S i
def sG : Nat → Nat → Got
  | 0, i => n6 i
  | n + 1, i => if isK a8g (nxt ts i) = true then blG ts (sG n) i else itH ts (RR ts (sG n)) i (b1g ts i).1 0 (b1g ts i).2 i ⟨#[]⟩ []
end
section
variable {ts : List Tok}
def Cr : Nat → List It → Prop
  | c, [] => 1 ≤ c
  | c, .sgn _ :: l => Cr (c + 1) l
  | c, .nam :: l => Cr (c + 1) l
  | c, .sub w :: l => Cr (if w = 2 then c + 1 else c) l
  | c, .els :: l => 1 < c ∧ Cr (c - 1) l
structure OkS (ts : List Tok) (c i : Nat) (x : Got) : Prop where
  ok : OkG ts i x
  sz : x.2.2 = 0 → x.1.size + c + i ≤ x.2.1
theorem y0 {c i j : Nat} (h : i ≤ ts.length → i ≤ j ∧ j ≤ ts.length) : OkS ts c i (n6 j) := ⟨a3h h, fun h => by simp [n6] at h⟩
theorem a3w {c i j : Nat} {x : Got} (h : OkS ts c j x) (hij : i ≤ j) (hj : j ≤ ts.length) : OkS ts c i x :=
  ⟨⟨fun h0 => ⟨by have := h.ok.yes h0; omega, (h.ok.yes h0).2⟩, h.ok.no, fun _ => by have := h.ok.le hj; omega⟩, fun h0 => by have := h.sz h0; omega⟩
theorem a3x {c i : Nat} {x : Got} (h : OkS ts c i x) : OkS ts 0 i x := ⟨h.ok, fun h0 => by have := h.sz h0; omega⟩
theorem a7q {c i : Nat} {x : Got} (h : OkS ts 0 i x) (h0 : x.2.2 ≠ 0) : OkS ts c i x := ⟨h.ok, fun h1 => absurd h1 h0⟩
theorem a1n {R : Nat → Nat → Got} (hR : ∀ w j, j ≤ ts.length → OkS ts (if w = 2 then 1 else 0) j (R w j)) (a : Nat) (k : Int) {n : Int} : ∀ (l : List It) (zto : Nat) (s : ByteArray) (ps : List VT) (c : Nat), c + sm ps + a ≤ zto → zto ≤ ts.length → Cr c l → OkS ts 0 a (itH ts R a k n l zto s ps)
  | [], zto, s, ps, c, h1, h2, h3 => by
    unfold Cr at h3
    exact ⟨t5 (by omega) h2, fun h0 => by have := a3c (ts := ts) (i := a) (b := zto) (k := k) (n := n) (s := s) (l := ps) (by omega) h0; exact this⟩
  | .sgn x :: l, zto, s, ps, c, h1, h2, h3 => by
    unfold itH
    split
    · rename_i h; have := g9 h; exact a1n hR a k l (zto + 1) s ps (c + 1) (by omega) (by omega) h3
    · exact y0 (fun _ => by omega)
  | .nam :: l, zto, s, ps, c, h1, h2, h3 => by
    unfold itH
    split
    · rename_i h; have := z4 h (by decide); exact a1n hR a k l (zto + 1) _ ps (c + 1) (by omega) (by omega) h3
    · exact y0 (fun _ => by omega)
  | .sub w :: l, zto, s, ps, c, h1, h2, h3 => by
    unfold itH
    have hr := hR w zto h2
    split
    · rename_i h
      have hy := hr.ok.yes h
      have hs := hr.sz h
      refine a1n hR a k l _ s _ _ ?_ hy.2 h3
      rw [w9]
      split at hs <;> split <;> omega
    · rename_i h; exact a7q (a3w (a3x hr) (by omega) h2) h
  | .els :: l, zto, s, ps, c, h1, h2, h3 => by
    unfold itH
    split
    · rename_i h
      have hlt := g9 h
      have hr := hR 2 (zto + 1) (by omega)
      split
      · rename_i h
        have hy := hr.ok.yes h
        have hs := hr.sz h
        refine a1n hR a k l _ s _ _ ?_ hy.2 h3.2
        rw [w9]
        rw [if_pos rfl] at hs
        omega
      · rename_i h; exact a7q (a3w (a3x hr) (by omega) (by omega)) h
    · refine a1n hR a k l zto s _ _ ?_ h2 h3.2
      rw [w9]
      have h4 := h3.1
      show c - 1 + (sm ps + Tr.size (Tr.mk _ [])) + a ≤ zto
      rw [Tr.size_mk]
      simp
      omega
theorem c3q {S : Nat → Got} (hS : ∀ j, j ≤ ts.length → OkS ts 0 j (S j)) (a : Nat) : ∀ (m zto : Nat) (acc : List VT), a + 1 + sm acc ≤ zto → zto ≤ ts.length → OkS ts 1 a (lpB ts S a m zto acc)
  | 0, zto, acc, h1, h2 => y0 (fun _ => by omega)
  | m + 1, zto, acc, h1, h2 => by
    unfold lpB
    split
    · rename_i h
      have hlt := g9 h
      refine ⟨t5 (by omega) (by omega), fun h0 => ?_⟩
      show Tr.size (Tr.mk _ acc) + 1 + a ≤ zto + 1
      rw [Tr.size_mk]
      unfold sm at h1
      omega
    · have hr := hS zto h2
      split
      · rename_i h
        have hy := hr.ok.yes h
        have hs := hr.sz h
        exact c3q hS a m _ _ (by rw [w9]; omega) hy.2
      · rename_i h; exact a7q (a3w hr (by omega) h2) h
theorem b6w {S : Nat → Got} (hS : ∀ j, j ≤ ts.length → OkS ts 0 j (S j)) (i : Nat) (hi : i ≤ ts.length) : OkS ts 1 i (blG ts S i) := by
  unfold blG
  split
  · rename_i h; have := g9 h; exact c3q hS i _ _ _ (by simp [sm]) (by omega)
  · exact y0 (fun _ => by omega)
theorem c4p : ∀ n i, (tyG ts n i).2.2 = 0 → (tyG ts n i).1.size + i ≤ (tyG ts n i).2.1
  | 0, i => by simp [tyG]
  | n + 1, i => by
    have ih := c4p n (i + 3)
    unfold tyG
    split
    · simp [Tr.size_mk]; omega
    split
    · simp [Tr.size_mk]; omega
    split
    · split
      · split
        · split
          · rename_i h
            have := ih h
            simp [Tr.size_mk]; omega
          · exact fun h => by rename_i h1; exact absurd h h1
        · simp
      · simp
    · split
      · simp [Tr.size_mk]; omega
      · simp
theorem a73 (i : Nat) (hi : i ≤ ts.length) : OkS ts 0 i (tyG ts (ts.length + 1) i) := by
  obtain ⟨h1, h2, h3, h4⟩ := b3y ts (ts.length + 1) i
  have hle : ∀ n i, i ≤ ts.length → i ≤ (tyG ts n i).2.1 := by
    intro n
    induction n with
    | zero => intro i _; exact Nat.le_refl _
    | succ n ih =>
      intro i hi
      unfold tyG
      split
      · simp
      split
      · simp
      split
      · rename_i h
        have h := g9 h
        split
        · rename_i h1
          have h1 := z4 h1 (by decide)
          split
          · rename_i h2
            have h2 := g9 h2
            have := ih (i + 3) (by omega)
            split
            · dsimp only; omega
            · omega
          · simp
        · simp
      · split <;> simp
  exact ⟨⟨h1, h2, fun _ => ⟨hle _ i hi, h3 hi⟩⟩, fun h => by have := c4p _ _ h; omega⟩
theorem b6h {S : Nat → Got} (hS : ∀ j, j ≤ ts.length → OkS ts 0 j (S j)) (w j : Nat) (hj : j ≤ ts.length) : OkS ts (if w = 2 then 1 else 0) j (RR ts S w j) := by
  unfold RR
  by_cases h0 : w = 0
  · rw [if_pos h0, if_neg (by omega)]
    exact ⟨b4d 1 j hj, fun h => by have := pG_sz (ts := ts) _ 1 j hj h; exact this⟩
  · rw [if_neg h0]
    by_cases h1 : w = 1
    · rw [if_pos h1, if_neg (by omega)]; exact a73 j hj
    · rw [if_neg h1]
      have := b6w hS j hj
      split
      · exact this
      · exact a3x this
theorem b7j (i : Nat) : Cr 0 (b1g ts i).2 := by
  unfold b1g
  repeat' split
  all_goals simp [Cr]
theorem a2k : ∀ (n i : Nat), i ≤ ts.length → OkS ts 0 i (sG ts n i)
  | 0, i, hi => y0 (fun _ => ⟨Nat.le_refl _, hi⟩)
  | n + 1, i, hi => by
    unfold sG
    split
    · exact a3x (b6w (a2k n) i hi)
    · exact a1n (b6h (a2k n)) i _ _ i _ [] 0 (by simp [sm]) hi (b7j i)
def WT (ts : List Tok) (s : ByteArray) (p : Nat × Int) : Nat × Int := if p.2 = 0 then if isK s (nxt ts p.1) = true then (p.1 + 1, 0) else (p.1, 6) else p
def OT (G : Nat → Got) (p : Nat × Int) : Got := if p.2 = 0 then G p.1 else (z0, p.1, p.2)
theorem z3 {R : Nat → Nat → Got} {a : Nat} {k n : Int} {x : ByteArray} {l : List It} {zto : Nat} {s : ByteArray} {ps : List VT} : itH ts R a k n (.sgn x :: l) zto s ps = if isK x (nxt ts zto) = true then itH ts R a k n l (zto + 1) s ps else n6 zto := by rw [itH]
theorem a23 {R : Nat → Nat → Got} {a : Nat} {k n : Int} {l : List It} {zto : Nat} {s : ByteArray} {ps : List VT} : itH ts R a k n (.nam :: l) zto s ps = if (nxt ts zto).k = 1 then itH ts R a k n l (zto + 1) (nxt ts zto).s ps else n6 zto := by rw [itH]
theorem a0z {R : Nat → Nat → Got} {a : Nat} {k n : Int} {w : Nat} {l : List It} {zto : Nat} {s : ByteArray} {ps : List VT} : itH ts R a k n (.sub w :: l) zto s ps = if (R w zto).2.2 = 0 then itH ts R a k n l (R w zto).2.1 s (ps ++ [(R w zto).1]) else R w zto := by rw [itH]
theorem b7s {R : Nat → Nat → Got} {a : Nat} {k n : Int} {l : List It} {zto : Nat} {s : ByteArray} {ps : List VT} : itH ts R a k n (.els :: l) zto s ps = if isK a79 (nxt ts zto) = true then if (R 2 (zto + 1)).2.2 = 0 then itH ts R a k n l (R 2 (zto + 1)).2.1 s (ps ++ [(R 2 (zto + 1)).1]) else R 2 (zto + 1) else itH ts R a k n l zto s (ps ++ [emB ts zto]) := by rw [itH]
end
end Go.Proofs.YthkfdheoakbfnaaGreat.vt
end
