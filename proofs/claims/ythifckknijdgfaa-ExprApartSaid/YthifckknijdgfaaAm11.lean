/-
  A machine of values: what a call does to the caller's memory. No program is named here.
-/
import Derived.Test.YthifckknijdgfaaAm10
namespace Go.Proofs.Ythifckknijdgfaa.am
open Go.ChangeShapes Go.WideShapes Go.ChangeAt Go.RowKit
set_option linter.unusedVariables false
set_option linter.unusedSimpArgs false

def wrs (ρ : Nat → Nat) : Nat → List (Option AO) → List (Nat × Option AO)
  | _, [] => []
  | i, o :: l => (ρ i, o.map (AO.ren ρ)) :: wrs ρ (i + 1) l
theorem wrs_out (ρ : Nat → Nat) : ∀ (l : List (Option AO)) (k : Nat) (H : Nat → Option AO) (y : Nat), (∀ i, i < l.length → ρ (k + i) ≠ y) → (wrs ρ k l).foldl (fun H p => upd H p.1 p.2) H y = H y
  | [], k, H, y, _ => rfl
  | o :: l, k, H, y, h => by
    unfold wrs
    rw [List.foldl_cons, wrs_out ρ l (k + 1) _ y (fun i hi => by have := h (i + 1) (by simpa using hi); rwa [show k + (i + 1) = k + 1 + i by omega] at this)]
    exact upd_ne _ _ (fun e => h 0 (by simp) e.symm)
theorem wrs_in (ρ : Nat → Nat) : ∀ (l : List (Option AO)) (k : Nat) (H : Nat → Option AO) (i : Nat), (∀ i j, i < l.length → j < l.length → ρ (k + i) = ρ (k + j) → i = j) → i < l.length → (wrs ρ k l).foldl (fun H p => upd H p.1 p.2) H (ρ (k + i)) = (l[i]?).join.map (AO.ren ρ)
  | [], k, H, i, _, hi => by simp at hi
  | o :: l, k, H, 0, hinj, _ => by
    unfold wrs
    rw [List.foldl_cons, wrs_out ρ l (k + 1) _ _ (fun i hi e => by have := hinj (i + 1) 0 (by simpa using hi) (by simp) (by rw [show k + (i + 1) = k + 1 + i by omega]; exact e); omega)]
    rw [Nat.add_zero, upd_same]; simp
  | o :: l, k, H, i + 1, hinj, hi => by
    unfold wrs
    rw [List.foldl_cons, show k + (i + 1) = k + 1 + i by omega, wrs_in ρ l (k + 1) _ i (fun a b ha hb e => by
      have := hinj (a + 1) (b + 1) (by simpa using ha) (by simpa using hb) (by rw [show k + (a + 1) = k + 1 + a by omega, show k + (b + 1) = k + 1 + b by omega]; exact e)
      omega) (by simpa using hi)]
    simp

/-- The names behind a call. -/
def nmap (σ : List Nat) (n nm : Nat) (i : Nat) : Nat := if i < n then σ.getD i 0 else nm + (i - n)

theorem call_sound {P : Program} {f : FuncId} {cargs : List AV} {ch : List AO} {res : AV} {ch' : List (Option AO)} (hs : Spec P f cargs ch res ch') {X : Ctx} {H : Nat → Option AO} {U : Nat → Prop} {γ : Nat → G} {S : CS} {w : World} (h : Mem X H U γ S w)
    (σ : List Nat) (hnd : ∀ i j, i < ch.length → j < ch.length → σ.getD i 0 = σ.getD j 0 → i = j) (hob : ∀ i o, ch[i]? = some o → ∃ o', H (σ.getD i 0) = some o' ∧ fitO ch.length (fun i => σ.getD i 0) o o')
    {vs : List Value} {args : List AV} (hv : RepVs γ S w vs args) (hfit : fitVs ch.length (fun i => σ.getD i 0) cargs args) (nm : Nat) (hU : ∀ x, nm ≤ x → x < nm + 8 → U x) (hlen : ch'.length ≤ ch.length + 8) (hle : ch.length ≤ ch'.length) :
    Calls P f vs.toArray w fun e w' => ∃ v γ' S', e = .returned v ∧ Mem X ((wrs (nmap σ ch.length nm) 0 ch').foldl (fun H p => upd H p.1 p.2) H) (fun x => U x ∧ ¬ (nm ≤ x ∧ x < nm + 8)) γ' S' w' ∧ GOn γ γ' ∧ (∀ b o, S b o → S' b o) ∧ (∀ b o, S b o → w'.cell? ⟨b, o, none⟩ = w.cell? ⟨b, o, none⟩) ∧ RepV γ' S' w' v (res.ren (nmap σ ch.length nm)) := by
  obtain ⟨γc, hγc⟩ : ∃ γc : Nat → G, γc = fun i => if i < ch.length then γ (σ.getD i 0) else .un := ⟨_, rfl⟩
  have hg : ∀ i, i < ch.length → γc i = γ (σ.getD i 0) := fun i hi => by rw [hγc]; simp only [hi, if_true]
  have hgo : ∀ i, ch.length ≤ i → γc i = .un := fun i hi => by rw [hγc]; simp only [Nat.not_lt.2 hi, if_false]
  have hliv : ∀ i, i < ch.length → γ (σ.getD i 0) ≠ .un ∧ γ (σ.getD i 0) ≠ .dead := fun i hi => by
    obtain ⟨o', h1, _⟩ := hob i _ (List.getElem?_eq_getElem hi)
    exact (h.obj _ _ h1).live
  have mc : Mem ⟨w, S, γc⟩ (fun x => ch[x]?) (fun x => ch.length ≤ x) γc S w := by
    refine ⟨rfl, rfl, rfl, Nat.le_refl _, fun _ _ _ => rfl, fun _ _ h => ⟨h, rfl⟩, fun _ _ h => .inl h, h.inb, GOn.refl _, fun x hx => hgo x hx, fun x hx => ?_, fun x o hx => ?_, fun x y hxy b hbx hby => ?_, fun x b hb => ?_⟩
    · exact .inl (hgo x (List.getElem?_eq_none_iff.1 hx))
    · obtain ⟨o', h1, h2⟩ := hob x o hx
      have hlt := (List.getElem?_eq_some_iff.1 hx).1
      exact fitO_rep (ρ := fun i => σ.getD i 0) hg hlt h2 (h.obj _ _ h1)
    · by_cases hx : x < ch.length
      · by_cases hy : y < ch.length
        · rw [hg x hx] at hbx; rw [hg y hy] at hby
          exact h.dist _ _ (fun e => hxy (hnd x y hx hy e)) b hbx hby
        · rw [hgo y (by omega)] at hby; cases hby
      · rw [hgo x (by omega)] at hbx; cases hbx
    · by_cases hx : x < ch.length
      · have hb' := hb
        rw [hg x hx] at hb'
        exact ⟨(h.live _ b hb').1, .inr ⟨x, hb⟩⟩
      · rw [hgo x (by omega)] at hb; cases hb
  refine (hs γc S w vs mc (RepVs.fit (ρ := fun i => σ.getD i 0) hg hfit hv)).mono ?_
  rintro e w' ⟨v, γ', S', rfl, m, hres⟩
  -- names
  obtain ⟨ρ, hρ⟩ : ∃ ρ, nmap σ ch.length nm = ρ := ⟨_, rfl⟩
  have hρ1 : ∀ i, i < ch.length → ρ i = σ.getD i 0 := fun i hi => by rw [← hρ]; unfold nmap; rw [if_pos hi]
  have hρ2 : ∀ i, ch.length ≤ i → ρ i = nm + (i - ch.length) := fun i hi => by rw [← hρ]; unfold nmap; rw [if_neg (by omega)]
  have hUr : ∀ i, ch.length ≤ i → i < ch'.length → U (ρ i) := fun i h1 h2 => by rw [hρ2 i h1]; exact hU _ (by omega) (by omega)
  have hinj : ∀ i j, i < ch'.length → j < ch'.length → ρ i = ρ j → i = j := fun i j hi hj e => by
    by_cases h1 : i < ch.length
    · by_cases h2 : j < ch.length
      · rw [hρ1 i h1, hρ1 j h2] at e; exact hnd i j h1 h2 e
      · have := h.un _ (hUr j (by omega) hj)
        rw [← e, hρ1 i h1] at this
        exact absurd this (hliv i h1).1
    · by_cases h2 : j < ch.length
      · have := h.un _ (hUr i (by omega) hi)
        rw [e, hρ1 j h2] at this
        exact absurd this (hliv j h2).1
      · rw [hρ2 i (by omega), hρ2 j (by omega)] at e; omega
  rw [hρ]
  obtain ⟨H', hH'⟩ : ∃ H', (wrs ρ 0 ch').foldl (fun H p => upd H p.1 p.2) H = H' := ⟨_, rfl⟩
  have hHi : ∀ i, i < ch'.length → H' (ρ i) = (ch'[i]?).join.map (AO.ren ρ) := fun i hi => by
    have := wrs_in ρ ch' 0 H i (fun a b ha hb e => hinj a b ha hb (by simpa using e)) hi
    rw [Nat.zero_add] at this
    rw [← hH']; exact this
  have hHo : ∀ y, (∀ i, i < ch'.length → ρ i ≠ y) → H' y = H y := fun y hy => by rw [← hH']; exact wrs_out ρ ch' 0 H y (fun i hi => by rw [Nat.zero_add]; exact hy i hi)
  rw [hH']
  clear hH'
  -- where they lead
  obtain ⟨γn, hγ1, hγ2⟩ : ∃ γn : Nat → G, (∀ i, i < ch'.length → γn (ρ i) = γ' i) ∧ ∀ y, (∀ i, i < ch'.length → ρ i ≠ y) → γn y = γ y := by
    refine ⟨fun y => open Classical in if h : ∃ i, i < ch'.length ∧ ρ i = y then γ' (Classical.choose h) else γ y, fun i hi => ?_, fun y hy => ?_⟩
    · have hex : ∃ j, j < ch'.length ∧ ρ j = ρ i := ⟨i, hi, rfl⟩
      have hc := Classical.choose_spec hex
      simp only [dif_pos hex]
      rw [hinj _ _ hc.1 hi hc.2]
    · have hno : ¬ ∃ i, i < ch'.length ∧ ρ i = y := fun ⟨i, h1, h2⟩ => hy i h1 h2
      simp only [dif_neg hno]
  have hun' : ∀ i, ch'.length ≤ i → γ' i = .un := fun i hi => m.un i hi
  have hren : ∀ i, γ' i = .un ∨ γn (ρ i) = γ' i := fun i => by
    by_cases hi : i < ch'.length
    · exact .inr (hγ1 i hi)
    · exact .inl (hun' i (by omega))
  have hgc : ∀ i b, (γc i).bk = some b → i < ch.length ∧ (γ (σ.getD i 0)).bk = some b := fun i b hb => by
    by_cases hi : i < ch.length
    · exact ⟨hi, by rw [← hg i hi]; exact hb⟩
    · rw [hgo i (by omega)] at hb; cases hb
  have hG : GOn γ γn := fun y => by
    by_cases hy : ∃ i, i < ch'.length ∧ ρ i = y
    · obtain ⟨i, hi, rfl⟩ := hy
      by_cases h1 : i < ch.length
      · rw [hγ1 i hi, hρ1 i h1]
        rcases m.mono i with k | k | ⟨k, v', hv'⟩
        · exact .inl (by rw [← hg i h1]; exact k)
        · exact .inr (.inl (by rw [← hg i h1]; exact k))
        · exact .inr (.inr ⟨k, v', by rw [← hg i h1]; exact hv'⟩)
      · exact .inl (h.un _ (hUr i (by omega) hi))
    · exact .inr (.inl (hγ2 y (fun i hi e => hy ⟨i, hi, e⟩)))
  have hSS : ∀ b o, S b o → S' b o := fun b o hb => (m.keep b o hb).1
  have hcell : ∀ b o, S b o → w'.cell? ⟨b, o, none⟩ = w.cell? ⟨b, o, none⟩ := fun b o hb => (m.keep b o hb).2
  have hsz : w.heap.size ≤ w'.heap.size := m.size
  -- a block that the call's variables do not lead to
  have hfar : ∀ b, b < w.heap.size → (∀ i, i < ch.length → (γ (σ.getD i 0)).bk ≠ some b) → w'.heap[b]? = w.heap[b]? ∧ ∀ o, S' b o → S b o := fun b hb hn =>
    ⟨m.frame b hb (fun i hi => let ⟨h1, h2⟩ := hgc i b hi; hn i h1 h2), fun o ho => by
      rcases m.fresh b o ho with k | k | ⟨i, hi⟩
      · exact k
      · exact (Nat.lt_irrefl _ (Nat.lt_of_lt_of_le hb k)).elim
      · obtain ⟨h1, h2⟩ := hgc i b hi; exact absurd h2 (hn i h1)⟩
  have hold : ∀ i b, i < ch'.length → (γ' i).bk = some b → b < w'.heap.size ∧ (w.heap.size ≤ b ∨ ∃ j, j < ch.length ∧ (γ (σ.getD j 0)).bk = some b) := fun i b hi hb => by
    have := m.live i b hb
    exact ⟨this.1, this.2.imp id (fun ⟨j, hj⟩ => ⟨j, hgc j b hj⟩)⟩
  have houter : ∀ y, (∀ i, i < ch'.length → ρ i ≠ y) → ∀ b, (γ y).bk = some b → b < w.heap.size ∧ ∀ i, i < ch.length → (γ (σ.getD i 0)).bk ≠ some b := fun y hy b hb =>
    ⟨(h.live y b hb).1, fun i hi e => h.dist y (σ.getD i 0) (fun e' => hy i (by omega) (by rw [hρ1 i hi]; exact e'.symm)) b hb e⟩
  refine ⟨v, γn, S', rfl, ⟨m.os.trans h.os, m.tape.trans h.tape, m.output.trans h.output, Nat.le_trans h.size hsz, fun b hb hx => ?_, fun b o hs0 => ?_, fun b o hs' => ?_, m.inb, h.mono.trans hG, fun x hx => ?_, fun x hx => ?_, fun x o hx => ?_, fun x y hxy b hbx hby => ?_, fun x b hb => ?_⟩, hG, hSS, hcell, hres.ren hren⟩
  · have h0 := h.size
    rw [(hfar b (by omega) (fun i hi e => ?_)).1]
    · exact h.frame b hb hx
    · rcases (h.live _ b e).2 with k | ⟨y, hy⟩
      · omega
      · exact hx y hy
  · have h1 := h.keep b o hs0
    exact ⟨hSS _ _ h1.1, by rw [hcell _ _ h1.1]; exact h1.2⟩
  · rcases m.fresh b o hs' with k | k | ⟨i, hi⟩
    · exact h.fresh b o k
    · exact .inr (.inl (Nat.le_trans h.size k))
    · obtain ⟨h1, h2⟩ := hgc i b hi
      rcases (h.live _ b h2).2 with k | k
      · exact .inr (.inl k)
      · exact .inr (.inr k)
  · rw [hγ2 x (fun i hi e => ?_)]
    · exact h.un x hx.1
    · subst e
      by_cases h1 : i < ch.length
      · rw [hρ1 i h1] at hx; exact (hliv i h1).1 (h.un _ hx.1)
      · rw [hρ2 i (by omega)] at hx; exact hx.2 ⟨by omega, by omega⟩
  · by_cases hy : ∃ i, i < ch'.length ∧ ρ i = x
    · obtain ⟨i, hi, rfl⟩ := hy
      rw [hHi i hi] at hx
      rw [hγ1 i hi]
      refine m.off i ?_
      cases hj : (ch'[i]?).join with
      | none => rfl
      | some o => rw [hj] at hx; cases hx
    · have hno : ∀ i, i < ch'.length → ρ i ≠ x := fun i hi e => hy ⟨i, hi, e⟩
      rw [hHo x hno] at hx; rw [hγ2 x hno]; exact h.off x hx
  · by_cases hy : ∃ i, i < ch'.length ∧ ρ i = x
    · obtain ⟨i, hi, rfl⟩ := hy
      rw [hHi i hi] at hx
      obtain ⟨o', ho', rfl⟩ := Option.map_eq_some_iff.1 hx
      exact (m.obj i o' ho').ren hren
    · have hno : ∀ i, i < ch'.length → ρ i ≠ x := fun i hi e => hy ⟨i, hi, e⟩
      rw [hHo x hno] at hx
      refine Obj'.on (h.obj x o hx) (hγ2 x hno) hG hSS hcell (fun b hb => ?_)
      have := houter x hno b hb
      exact hfar b this.1 this.2
  · by_cases h1 : ∃ i, i < ch'.length ∧ ρ i = x
    · obtain ⟨i, hi, rfl⟩ := h1
      rw [hγ1 i hi] at hbx
      by_cases h2 : ∃ j, j < ch'.length ∧ ρ j = y
      · obtain ⟨j, hj, rfl⟩ := h2
        rw [hγ1 j hj] at hby
        exact m.dist i j (fun e => hxy (by rw [e])) b hbx hby
      · have hno : ∀ i, i < ch'.length → ρ i ≠ y := fun i hi e => h2 ⟨i, hi, e⟩
        rw [hγ2 y hno] at hby
        have o1 := houter y hno b hby
        rcases (hold i b hi hbx).2 with k | ⟨j, hj, k⟩
        · omega
        · exact o1.2 j hj k
    · have hno : ∀ i, i < ch'.length → ρ i ≠ x := fun i hi e => h1 ⟨i, hi, e⟩
      rw [hγ2 x hno] at hbx
      have o1 := houter x hno b hbx
      by_cases h2 : ∃ j, j < ch'.length ∧ ρ j = y
      · obtain ⟨j, hj, rfl⟩ := h2
        rw [hγ1 j hj] at hby
        rcases (hold j b hj hby).2 with k | ⟨i, hi, k⟩
        · omega
        · exact o1.2 i hi k
      · have hno2 : ∀ i, i < ch'.length → ρ i ≠ y := fun i hi e => h2 ⟨i, hi, e⟩
        rw [hγ2 y hno2] at hby
        exact h.dist x y hxy b hbx hby
  · by_cases h1 : ∃ i, i < ch'.length ∧ ρ i = x
    · obtain ⟨i, hi, rfl⟩ := h1
      rw [hγ1 i hi] at hb
      have := hold i b hi hb
      refine ⟨this.1, ?_⟩
      rcases this.2 with k | ⟨j, hj, k⟩
      · exact .inl (Nat.le_trans h.size k)
      · exact (h.live _ b k).2
    · have hno : ∀ i, i < ch'.length → ρ i ≠ x := fun i hi e => h1 ⟨i, hi, e⟩
      rw [hγ2 x hno] at hb
      have := h.live x b hb
      exact ⟨by omega, this.2⟩
end Go.Proofs.Ythifckknijdgfaa.am
