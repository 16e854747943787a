/-
  A machine of values: append. No program is named here.
-/
import Derived.Test.YthifckknijdgfaaAm7
namespace Go.Proofs.Ythifckknijdgfaa.am
open Go.ChangeShapes Go.WideShapes Go.ChangeAt Go.RowKit
set_option linter.unusedVariables false
set_option linter.unusedSimpArgs false

section
variable {X : Ctx} {H : Nat → Option AO} {U : Nat → Prop} {γ : Nat → G} {S : CS} {w : World} {P : Program}
theorem GOn.kill {γ : Nat → G} {id : Nat} {v : Value} (h : γ id = .val v) : GOn γ (upd γ id .dead) := fun y => by
  by_cases hy : y = id
  · subst hy; exact .inr (.inr ⟨upd_same _ _ _, v, h⟩)
  · exact .inr (.inl (upd_ne γ _ hy))
/-- A slice of the call's own is no longer one. -/
theorem Mem.kill (h : Mem X H U γ S w) {id : Nat} {v : Value} (hid : γ id = .val v) : Mem X (upd H id none) U (upd γ id .dead) S w := by
  have hG := GOn.kill hid
  refine ⟨h.os, h.tape, h.output, h.size, h.frame, h.keep, h.fresh, h.inb, h.mono.trans hG, fun x hx => ?_, fun x hx => ?_, fun x o hx => ?_, fun x y hxy b hbx hby => ?_, fun x b hb => ?_⟩
  · have := h.un x hx
    rw [upd_ne γ _ (fun e => by rw [e, hid] at this; cases this)]; exact this
  · by_cases hx' : x = id
    · subst hx'; exact .inr (upd_same _ _ _)
    · rw [upd_ne _ _ hx'] at hx ⊢; exact h.off x hx
  · by_cases hx' : x = id
    · subst hx'; rw [upd_same] at hx; cases hx
    · rw [upd_ne _ _ hx'] at hx
      exact Obj'.on (h.obj x o hx) (upd_ne _ _ hx') hG (fun _ _ h => h) (fun _ _ _ => rfl) (fun b hb => ⟨rfl, fun _ h => h⟩)
  · by_cases hx' : x = id
    · subst hx'; rw [upd_same] at hbx; cases hbx
    · by_cases hy' : y = id
      · subst hy'; rw [upd_same] at hby; cases hby
      · rw [upd_ne _ _ hx'] at hbx; rw [upd_ne _ _ hy'] at hby; exact h.dist x y hxy b hbx hby
  · by_cases hx' : x = id
    · subst hx'; rw [upd_same] at hb; cases hb
    · rw [upd_ne _ _ hx'] at hb; exact h.live x b hb

/-- A slice goes on under a new name: its block has more kept cells. -/
theorem Mem.app (h : Mem X H U γ S w) {id nm : Nat} (hn : U nm) {v v' : Value} (hid : γ id = .val v) (hv : v'.ownBlock = v.ownBlock) {w' : World} (os : w'.os = w.os) (tape : w'.tape = w.tape) (out : w'.output = w.output) (size : w'.heap.size = w.heap.size)
    (hoth : ∀ k, v.ownBlock ≠ some k → w'.heap[k]? = w.heap[k]?) (hcell : ∀ b k, S b k → w'.cell? ⟨b, k, none⟩ = w.cell? ⟨b, k, none⟩) (K : Nat → Prop) (o : AO)
    (hob : Obj' (upd (upd γ id .dead) nm (.val v')) (fun b k => S b k ∨ (v.ownBlock = some b ∧ K k)) w' nm o) :
    Mem X (upd (upd H id none) nm (some o)) (fun x => U x ∧ x ≠ nm) (upd (upd γ id .dead) nm (.val v')) (fun b k => S b k ∨ (v.ownBlock = some b ∧ K k)) w' ∧ GOn γ (upd (upd γ id .dead) nm (.val v')) := by
  have hnm := h.un nm hn
  have hne : id ≠ nm := fun e => by rw [e, hnm] at hid; cases hid
  have hG : GOn γ (upd (upd γ id .dead) nm (.val v')) := (GOn.kill hid).trans (GOn.upd_un (by rw [upd_ne _ _ (Ne.symm hne)]; exact hnm) _)
  have hbk : ∀ x, x ≠ id → x ≠ nm → (upd (upd γ id .dead) nm (.val v')) x = γ x := fun x h1 h2 => by rw [upd_ne _ _ h2, upd_ne _ _ h1]
  have hbn : (upd (upd γ id .dead) nm (.val v')) nm = .val v' := upd_same _ _ _
  have hbi : (upd (upd γ id .dead) nm (.val v')) id = .dead := by rw [upd_ne _ _ hne, upd_same]
  have hown : ∀ b, v.ownBlock = some b → (γ id).bk = some b := fun b hb => by rw [hid]; exact hb
  refine ⟨⟨os.trans h.os, tape.trans h.tape, out.trans h.output, by rw [size]; exact h.size, fun b hb hx => ?_, fun b k hs => ?_, fun b k hs => ?_, fun b k hs => ?_, h.mono.trans hG, fun x hx => ?_, fun x hx => ?_, fun x o' hx => ?_, fun x y hxy b hbx hby => ?_, fun x b hb => ?_⟩, hG⟩
  · rw [hoth b (fun e => ?_)]
    · exact h.frame b hb hx
    · rcases (h.live id b (hown b e)).2 with k | ⟨y, hy⟩
      · omega
      · exact hx y hy
  · have := h.keep b k hs
    exact ⟨.inl this.1, by rw [hcell b k this.1]; exact this.2⟩
  · rcases hs with hs | ⟨hs, _⟩
    · exact h.fresh b k hs
    · rcases (h.live id b (hown b hs)).2 with k | k
      · exact .inr (.inl k)
      · exact .inr (.inr k)
  · rw [size]
    rcases hs with hs | ⟨hs, _⟩
    · exact h.inb b k hs
    · exact (h.live id b (hown b hs)).1
  · have := h.un x hx.1
    rw [hbk x (fun e => by rw [e, hid] at this; cases this) hx.2]; exact this
  · by_cases h1 : x = nm
    · subst h1; rw [upd_same] at hx; cases hx
    · rw [upd_ne _ _ h1] at hx
      by_cases h2 : x = id
      · subst h2; exact .inr hbi
      · rw [upd_ne _ _ h2] at hx; rw [hbk x h2 h1]; exact h.off x hx
  · by_cases h1 : x = nm
    · subst h1; rw [upd_same] at hx; cases hx; exact hob
    · rw [upd_ne _ _ h1] at hx
      by_cases h2 : x = id
      · subst h2; rw [upd_same] at hx; cases hx
      · rw [upd_ne _ _ h2] at hx
        refine Obj'.on (h.obj x o' hx) (hbk x h2 h1) hG (fun _ _ h => .inl h) hcell (fun b hb => ⟨hoth b (fun e => h.dist x id h2 b hb (hown b e)), fun k hk => hk.elim (fun h => h) (fun e => (h.dist x id h2 b hb (hown b e.1)).elim)⟩)
  · by_cases h1 : x = nm
    · subst h1
      rw [hbn] at hbx
      by_cases h3 : y = id
      · subst h3; rw [hbi] at hby; cases hby
      · rw [hbk y h3 (Ne.symm hxy)] at hby
        exact h.dist y id h3 b hby (hown b (by rw [← hv]; exact hbx))
    · by_cases h2 : x = id
      · subst h2; rw [hbi] at hbx; cases hbx
      · rw [hbk x h2 h1] at hbx
        by_cases h3 : y = nm
        · subst h3
          rw [hbn] at hby
          exact h.dist x id h2 b hbx (hown b (by rw [← hv]; exact hby))
        · by_cases h4 : y = id
          · subst h4; rw [hbi] at hby; cases hby
          · rw [hbk y h4 h3] at hby; exact h.dist x y hxy b hbx hby
  · rw [size]
    by_cases h1 : x = nm
    · subst h1; rw [hbn] at hb; exact h.live id b (hown b (by rw [← hv]; exact hb))
    · by_cases h2 : x = id
      · subst h2; rw [hbi] at hb; cases hb
      · rw [hbk x h2 h1] at hb; exact h.live x b hb

/-! append -/
def vappend (P : Program) (d : TD) (x y : AV) (H : Nat → Option AO) (nm : Nat) : Option (AV × List Nat × List (Nat × Option AO)) :=
  match d.tag with
  | .slice e =>
    match td P e with
    | some de =>
      match asSl de.sz y with
      | some l' =>
        match x with
        | .v (.c (.row id es l)) =>
          match H id with
          | some (.row e' es') => if e' = e ∧ es' = de.sz ∧ es = de.sz ∧ 0 < de.sz ∧ (l.length + l'.length) * de.bytes ≤ 140737488355328 ∧ l.length + l'.length ≤ 140737488355328 then some (.v (.c (.row nm de.sz (l ++ l'))), [id], [(id, none), (nm, some (.row e de.sz))]) else none
          | _ => none
        | .v (.c (.pv .nilS)) => if 0 < de.sz ∧ l'.length * de.bytes ≤ 140737488355328 ∧ l'.length ≤ 140737488355328 then some (.v (.c (.row nm de.sz l')), [], [(nm, some (.row e de.sz))]) else none
        | .v (.c (.cut es l)) => if es = de.sz ∧ 0 < de.sz ∧ 0 < l'.length ∧ (l.length + l'.length) * de.bytes ≤ 140737488355328 ∧ l.length + l'.length ≤ 140737488355328 then some (.v (.c (.row nm de.sz (l ++ l'))), [], [(nm, some (.row e de.sz))]) else none
        | _ => none
      | none => none
    | none => none
  | _ => none

/-- The cells of a slice that is read. -/
theorem SlR.news {es : Nat} {l : List (List PV)} {a : Option Addr} {c : Nat} (h : SlR S w es l a c) (h0 : 0 < l.length) : ∃ (ad : Addr) (news : List Value), a = some ad ∧ RepPs S w news l.flatten ∧ (∀ (j : Nat) u, news[j]? = some u → w.cell? (ad.add j) = some u) ∧ (∀ e ∈ l, e.length = es) ∧ news.length = l.length * es := by
  rcases h.at' with rfl | ⟨b, off, rfl, hes, hc⟩
  · simp at h0
  · obtain ⟨news, h1, h2, h3⟩ := RepPs_list (S := S) (w := w) b off l.flatten (fun k p hk => by
      obtain ⟨i, j, e, g1, g2, rfl⟩ := flat_decode hes hk
      have := (hc i e j p g1 g2).2
      rwa [Nat.add_assoc] at this)
    exact ⟨_, news, rfl, ⟨h1, h3⟩, fun j u hj => by rw [addr_add]; exact h2 j u hj, hes, by rw [h1, flat_len hes]⟩
theorem RepPs.ones {vs : List Value} {l : List PV} (h : RepPs S w vs l) : ∀ v ∈ vs, v.oneCell' = true := fun v hv => by
  obtain ⟨i, hi⟩ := List.getElem?_of_mem hv
  obtain ⟨c, hc⟩ := getElem?_lift h.1 hi
  obtain ⟨v', h1, h2⟩ := h.2 i c hc
  rw [hi] at h1; cases h1
  exact h2.one
theorem RepPs.append {vs us : List Value} {l m : List PV} (h : RepPs S w vs l) (k : RepPs S w us m) : RepPs S w (vs ++ us) (l ++ m) := by
  refine ⟨by simp [h.1, k.1], fun i c hc => ?_⟩
  rw [List.getElem?_append] at hc ⊢
  split at hc
  · rename_i hi; obtain ⟨v, h1, h2⟩ := h.2 i c hc; exact ⟨v, by rw [if_pos (by rw [h.1]; exact hi)]; exact h1, h2⟩
  · rename_i hi; obtain ⟨v, h1, h2⟩ := k.2 _ c hc; exact ⟨v, by rw [if_neg (by rw [h.1]; exact hi), h.1]; exact h1, h2⟩
/-- Nothing is appended. -/
theorem run_append0 {t ty e : TypeId} {de : TD} (ht : P.underlying t = some (.slice e)) (hde : td P e = some de) (a a' : Option Addr) (n c c' : Nat) (h : n ≤ c) : (Builtin.append_ #[t, t] ty #[.slice a n c, .slice a' 0 c']).run P w = .ok (.slice a n c) w := by
  obtain ⟨i, ud, z, T⟩ := td_ok hde
  cases a' <;> cases a <;> simp [Builtin.append_, run_underlying ht, T.sizeOf, Builtin.lenOf, h, Builtin.firstCells, loadCells, loadCellsFrom, storeCells]

/-- What append makes in new memory: a slice of the call's own. -/
theorem grown_row (h : Mem X H U γ S w) {nm : Nat} (hn : U nm) {e : TypeId} {de : TD} {z : Value} {i : TypeInfo} {ud : TypeDesc} (T : TDok P e de i ud z) {l : List (List PV)} (hes : ∀ e ∈ l, e.length = de.sz) {xs : List Value} (hxs : RepPs S w xs l.flatten) (old : Nat) (hle : l.length ≤ 140737488355328) :
    ∃ γ' S', Mem X (upd H nm (some (.row e de.sz))) (fun x => U x ∧ x ≠ nm) γ' S' (w.drew.alloc (.cells (xs.toArray ++ Builtin.zeroCells z.cells (grownCap w l.length old e - l.length)) e)) ∧ GOn γ γ' ∧ (∀ b o, S b o → S' b o) ∧ (∀ b o, S b o → (w.drew.alloc (.cells (xs.toArray ++ Builtin.zeroCells z.cells (grownCap w l.length old e - l.length)) e)).cell? ⟨b, o, none⟩ = w.cell? ⟨b, o, none⟩) ∧
      RepV γ' S' (w.drew.alloc (.cells (xs.toArray ++ Builtin.zeroCells z.cells (grownCap w l.length old e - l.length)) e)) (.slice (some ⟨w.heap.size, 0, none⟩) l.length (grownCap w l.length old e)) (.v (.c (.row nm de.sz l))) := by
  have hge := grownCap_ge w l.length old e
  have hcm : grownCap w l.length old e ≤ maxLen := grownCap_le_maxLen w l.length old e (by unfold maxLen; omega)
  have hxl : xs.length = l.length * de.sz := by rw [hxs.1, flat_len hes]
  have hsz : (xs.toArray ++ Builtin.zeroCells z.cells (grownCap w l.length old e - l.length)).size = grownCap w l.length old e * de.sz := by
    simp only [Array.size_append, List.size_toArray, size_zeroCells, T.zsize, hxl, ← Nat.add_mul]
    congr 1; omega
  have hdrew : RepPs S w.drew xs l.flatten := RepPs.mono (w := w) (w' := w.drew) (fun _ _ h => h) (fun _ _ _ => rfl) hxs
  have := newrow h.drew hn e de.sz hes _ (grownCap w l.length old e) hge (by unfold maxLen at hcm; omega) hsz (by
    simp only [Array.toList_append, List.toList_toArray]
    rw [← hxl, List.take_left]; exact hdrew)
  exact this

theorem vappend_sound (h : Mem X H U γ S w) {nm : Nat} (hn : U nm) {t : TypeId} {d : TD} (hd : td P t = some d) {x y v : AV} {F : List Nat} {W : List (Nat × Option AO)} (hv : vappend P d x y H nm = some (v, F, W)) (ty : TypeId) {a b : Value} (hx : RepV γ S w a x) (hy : RepV γ S w b y) :
    Stp X (W.foldl (fun H p => upd H p.1 p.2) H) (fun x => U x ∧ x ≠ nm) γ S w ((do pure (.value (← Builtin.append_ #[t, t] ty #[a, b])) : Sem Go.Next).run P w) v := by
  obtain ⟨i, ud, z, T⟩ := td_ok hd
  unfold vappend at hv
  split at hv
  · rename_i e htag
    have hu := T.uslice htag
    split at hv
    · rename_i de hde
      obtain ⟨i', ud', z', T'⟩ := td_ok hde
      split at hv
      · rename_i l' hl'
        obtain ⟨a', c', rfl, hs'⟩ := sl_inv (asSl_rep hy hl')
        split at hv
        · -- onto a slice of the call's own
          rename_i id es l
          split at hv
          · rename_i e' es' hH
            split at hv
            · rename_i hc
              obtain ⟨rfl, rfl, rfl, hpos, hby, hle⟩ := hc
              simp only [Option.some.injEq, Prod.mk.injEq] at hv
              obtain ⟨rfl, rfl, rfl⟩ := hv
              simp only [List.foldl_cons, List.foldl_nil]
              obtain ⟨hxr, hxg⟩ := hx
              obtain ⟨v0, n0, xs0, g1, g2, g3⟩ := h.obj _ _ hH
              have hav : a = v0 := by
                rcases hxg with hxg | hxg
                · rw [g1] at hxg; cases hxg
                · rw [g1] at hxg; cases hxg; rfl
              subst hav
              have hnm := h.un nm hn
              have hne : id ≠ nm := fun e => by rw [e, hnm] at g1; cases g1
              obtain ⟨a1, c1, rfl, hs1⟩ := sl_inv hxr
              rcases Nat.eq_zero_or_pos l'.length with h0 | h0
              · -- nothing is appended
                have hl0 : l' = [] := List.length_eq_zero_iff.1 h0
                subst hl0
                have hn0 : n0 = l.length := by
                  rcases g2.2 with ⟨k1, k2⟩ | ⟨g, cap, cur, k1, _⟩
                  · injection k1 with _ k3 _; omega
                  · cases k1; rfl
                subst hn0
                obtain ⟨m1, m2⟩ := h.app hn g1 (v' := .slice a1 l.length c1) rfl (w' := w) rfl rfl rfl rfl (fun _ _ => rfl) (fun _ _ _ => rfl) (fun _ => False) (.row e' de.sz) ⟨_, l.length, xs0, upd_same _ _ _, g2, fun b hb o ho hs => g3 b hb o ho (hs.elim (fun h => h) (fun h => h.2.elim))⟩
                refine ⟨_, w, _, _, .inl (by simp [run_append0 hu hde a1 a' l.length c1 c' hs1.cap]), m1, m2, fun _ _ h => .inl h, fun _ _ _ => rfl, ?_, .inr (upd_same _ _ _)⟩
                rw [List.append_nil]
                exact hxr.mono (fun _ _ h => .inl h) (fun _ _ _ => rfl)
              · obtain ⟨ad, news, rfl, hnews, hcell, hes', hnl⟩ := hs'.news h0
                rcases g2.2 with ⟨k1, k2⟩ | ⟨g, cap, cur, k1, _, k3, k4, k5, k6, k7⟩
                · -- onto nil
                  injection k1 with k3 k4 k5
                  have hl0 : l = [] := List.length_eq_zero_iff.1 k4
                  subst hl0 k3 k5
                  have hrun := run_append_nil (P := P) w t ty e' i' z' hu T'.info T'.zer ad l'.length c' news (by rw [hnl, T'.sz]) hcell h0 (by simp at hle; omega) (by rw [T'.bytes]; simp at hby; omega)
                  have mk := h.kill g1
                  obtain ⟨γ', S', m1, m2, m3, m4, m5⟩ := grown_row (P := P) mk hn T' hes' (xs := news) hnews 0 (by simp at hle; omega)
                  refine ⟨_, _, γ', S', .inl (by rw [Sem.run_bind, show ([] : List (List PV)).length = 0 from rfl, hrun]; rfl), m1, (GOn.kill g1).trans m2, m3, m4, m5⟩
                · cases k1
                  have holds : ∀ j u, xs0[j]? = some u → w.cell? ((⟨g, 0, none⟩ : Addr).add j) = some u := g2.cells (g := g) rfl
                  have hesl : ∀ e ∈ l, e.length = de.sz := by
                    rcases hs1.at' with rfl | ⟨b, off, _, hes, _⟩
                    · simp
                    · exact hes
                  have hxs0 : RepPs S w xs0 l.flatten := by
                    refine ⟨by rw [g2.1, flat_len hesl], fun k p hk => ?_⟩
                    obtain ⟨i, j, e, q1, q2, rfl⟩ := flat_decode hesl hk
                    rcases hs1.at' with rfl | ⟨b, off, hb, _, hc⟩
                    · simp at q1
                    · simp only [Option.some.injEq, Addr.mk.injEq, and_true] at hb
                      obtain ⟨rfl, rfl⟩ := hb
                      obtain ⟨_, u, q3, q4⟩ := hc i e j p q1 q2
                      have hlt : i * de.sz + j < xs0.length := by
                        have := (List.getElem?_eq_some_iff.1 hk).1
                        rwa [flat_len hesl, ← g2.1] at this
                      have q5 := holds (i * de.sz + j) _ (List.getElem?_eq_getElem hlt)
                      rw [addr_add, ← Nat.add_assoc, q3] at q5
                      cases q5
                      exact ⟨_, List.getElem?_eq_getElem hlt, q4⟩
                  have hes2 : ∀ e ∈ l ++ l', e.length = de.sz := fun e he => (List.mem_append.1 he).elim (hesl e) (hes' e)
                  by_cases hroom : l.length + l'.length ≤ c1
                  · -- in place
                    have hfit : l.length * i'.size + news.length ≤ cur.size := by rw [hnl, k6, T'.sz, ← Nat.add_mul]; exact Nat.mul_le_mul_right _ hroom
                    have hrun := run_append_room (P := P) w t ty e' i' hu T'.info g l.length c1 cur k3 ad l'.length c' news (by rw [hnl, T'.sz]) hcell hnews.ones hroom hfit
                    rw [T'.sz] at hrun hfit
                    have hkeep : ∀ k, k < l.length * de.sz → (w.setRow g (cur.toList.take (l.length * de.sz) ++ news ++ cur.toList.drop (l.length * de.sz + news.length)).toArray).cell? ⟨g, k, none⟩ = w.cell? ⟨g, k, none⟩ := fun k hk => by
                      rw [cell_row (setRow_heap w g cur _ e' _ k3), cell_row k3]
                      simp only [List.toList_toArray]
                      rw [List.append_assoc, List.getElem?_append_left (by have h9 : cur.toList.length = c1 * de.sz := k6; have h8 := Nat.mul_le_mul_right de.sz k4; rw [List.length_take]; omega), List.getElem?_take, if_pos hk]
                    have hoth : ∀ k, (Value.slice (some ⟨g, 0, none⟩) l.length c1).ownBlock ≠ some k → (w.setRow g (cur.toList.take (l.length * de.sz) ++ news ++ cur.toList.drop (l.length * de.sz + news.length)).toArray).heap[k]? = w.heap[k]? := fun k hk => setRow_other w g k _ (fun e => hk (by rw [e]; rfl))
                    have hcl : ∀ b k, S b k → (w.setRow g (cur.toList.take (l.length * de.sz) ++ news ++ cur.toList.drop (l.length * de.sz + news.length)).toArray).cell? ⟨b, k, none⟩ = w.cell? ⟨b, k, none⟩ := fun b k hs => by
                      by_cases hb : b = g
                      · subst hb
                        refine hkeep k (Nat.lt_of_not_le (fun hle' => g3 b rfl k hle' hs))
                      · exact World.cell?_of_block (hoth b (fun e => hb (by cases e; rfl)))
                    have hlen2 : (l ++ l').length = l.length + l'.length := List.length_append
                    have hxl2 : xs0.length = l.length * de.sz := g2.1
                    obtain ⟨m1, m2⟩ := h.app hn g1 (v' := .slice (some ⟨g, 0, none⟩) (l.length + l'.length) c1) rfl (w' := w.setRow g (cur.toList.take (l.length * de.sz) ++ news ++ cur.toList.drop (l.length * de.sz + news.length)).toArray) rfl rfl rfl (by simp [World.setRow]) hoth hcl (fun k => k < (l.length + l'.length) * de.sz) (.row e' de.sz)
                      ⟨_, l.length + l'.length, xs0 ++ news, upd_same _ _ _, ⟨by rw [List.length_append, hxl2, hnl, Nat.add_mul], .inr ⟨g, c1, _, rfl, Nat.zero_le _, setRow_heap w g cur _ e' _ k3, hroom, k5, by
                          simp only [List.size_toArray, List.length_append, List.length_take, List.length_drop, Array.length_toList]; omega, by
                          simp only [List.toList_toArray]
                          rw [k7, show (l.length + l'.length) * de.sz = (xs0 ++ news).length by rw [List.length_append, hxl2, hnl, Nat.add_mul]]
                          exact List.take_left⟩⟩, fun b hb o ho hs => by
                        cases hb
                        rcases hs with hs | ⟨_, hs⟩
                        · exact g3 g rfl o (Nat.le_trans (Nat.mul_le_mul_right _ (Nat.le_add_right _ _)) ho) hs
                        · omega⟩
                    refine ⟨_, _, _, _, .inl (by rw [Sem.run_bind, hrun]; rfl), m1, m2, fun _ _ h => .inl h, hcl, ?_, .inr (upd_same _ _ _)⟩
                    rw [← hlen2]
                    refine sl_of_block hes2 (xs := xs0 ++ news) ?_ (by rw [hlen2]; exact hroom) (by unfold maxLen at k5; omega) (fun k u hk => ?_)
                    · rw [List.flatten_append]
                      exact (hxs0.append hnews).mono (fun _ _ h => .inl h) hcl
                    · have hk1 := (List.getElem?_eq_some_iff.1 hk).1
                      rw [List.length_append, hxl2, hnl, ← Nat.add_mul] at hk1
                      refine ⟨.inr ⟨rfl, by rw [hlen2]; exact hk1⟩, ?_⟩
                      rw [cell_row (setRow_heap w g cur _ e' _ k3)]
                      simp only [List.toList_toArray]
                      rw [k7, List.getElem?_append_left (by rw [List.length_append, hxl2, hnl, ← Nat.add_mul]; exact hk1)]
                      exact hk
                  · -- in new memory
                    have hrun := run_append_grow (P := P) w t ty e' i' z' hu T'.info T'.zer ⟨g, 0, none⟩ l.length c1 xs0 (by rw [g2.1, T'.sz]) holds ad l'.length c' news (by rw [hnl, T'.sz]) hcell (by omega) (by omega) (growslice_fits (by omega) (by rw [T'.bytes]; exact hby))
                    have mk := h.kill g1
                    have hlen2 : (l ++ l').length = l.length + l'.length := List.length_append
                    obtain ⟨γ', S', m1, m2, m3, m4, m5⟩ := grown_row (P := P) mk hn T' hes2 (xs := xs0 ++ news) (by rw [List.flatten_append]; exact hxs0.append hnews) c1 (by rw [hlen2]; exact hle)
                    rw [hlen2] at m1 m4 m5
                    rw [← List.append_toArray] at m1 m4 m5
                    refine ⟨_, _, γ', S', .inl (by rw [Sem.run_bind, hrun]; rfl), m1, (GOn.kill g1).trans m2, m3, m4, m5⟩
            · cases hv
          · cases hv
        · -- onto nil
          split at hv
          · rename_i hc
            obtain ⟨hpos, hby, hle⟩ := hc
            simp only [Option.some.injEq, Prod.mk.injEq] at hv
            obtain ⟨rfl, rfl, rfl⟩ := hv
            simp only [List.foldl_cons, List.foldl_nil]
            obtain rfl := nilS_inv hx
            rcases Nat.eq_zero_or_pos l'.length with h0 | h0
            · have hl0 : l' = [] := List.length_eq_zero_iff.1 h0
              subst hl0
              have hG := GOn.upd_un (h.un nm hn) (.val (.slice none 0 0))
              have hm : Mem X (upd H nm (some (.row e de.sz))) (fun x => U x ∧ x ≠ nm) (upd γ nm (.val (.slice none 0 0))) S w := by
                refine ⟨h.os, h.tape, h.output, h.size, h.frame, h.keep, h.fresh, h.inb, h.mono.trans hG, fun x hx => by rw [upd_ne _ _ hx.2]; exact h.un x hx.1, fun x hx => ?_, fun x o hx => ?_, fun x y hxy b hbx hby => ?_, fun x b hb => ?_⟩
                · by_cases h1 : x = nm
                  · subst h1; rw [upd_same] at hx; cases hx
                  · rw [upd_ne _ _ h1] at hx ⊢; exact h.off x hx
                · by_cases h1 : x = nm
                  · subst h1; rw [upd_same] at hx; cases hx
                    exact ⟨_, 0, [], upd_same _ _ _, World.ownsRow_nil w 0 e de.sz, fun b hb => by cases hb⟩
                  · rw [upd_ne _ _ h1] at hx
                    exact Obj'.on (h.obj x o hx) (upd_ne _ _ h1) hG (fun _ _ h => h) (fun _ _ _ => rfl) (fun b hb => ⟨rfl, fun _ h => h⟩)
                · by_cases h1 : x = nm
                  · subst h1; rw [upd_same] at hbx; cases hbx
                  · by_cases h2 : y = nm
                    · subst h2; rw [upd_same] at hby; cases hby
                    · rw [upd_ne _ _ h1] at hbx; rw [upd_ne _ _ h2] at hby; exact h.dist x y hxy b hbx hby
                · by_cases h1 : x = nm
                  · subst h1; rw [upd_same] at hb; cases hb
                  · rw [upd_ne _ _ h1] at hb; exact h.live x b hb
              exact ⟨.slice none 0 0, w, _, S, .inl (by rw [Sem.run_bind, show ([] : List (List PV)).length = 0 from rfl, run_append0 hu hde none a' 0 0 c' (Nat.le_refl _)]; rfl), hm, hG, fun _ _ h => h, fun _ _ _ => rfl, .emp none 0 _ (by decide) (fun _ => rfl), .inr (upd_same _ _ _)⟩
            · obtain ⟨ad, news, rfl, hnews, hcell, hes', hnl⟩ := hs'.news h0
              have hrun := run_append_nil (P := P) w t ty e i' z' hu T'.info T'.zer ad l'.length c' news (by rw [hnl, T'.sz]) hcell h0 (by omega) (by rw [T'.bytes]; omega)
              obtain ⟨γ', S', m1, m2, m3, m4, m5⟩ := grown_row (P := P) h hn T' hes' (xs := news) hnews 0 hle
              exact ⟨_, _, γ', S', .inl (by rw [Sem.run_bind, hrun]; rfl), m1, m2, m3, m4, m5⟩
          · cases hv
        · -- onto one with no room
          split at hv
          · rename_i es l hc
            obtain ⟨rfl, hpos, h0, hby, hle⟩ := hc
            simp only [Option.some.injEq, Prod.mk.injEq] at hv
            obtain ⟨rfl, rfl, rfl⟩ := hv
            simp only [List.foldl_cons, List.foldl_nil]
            obtain ⟨hxr, aa, nn, hva⟩ := hx
            obtain ⟨a1, c1, rfl, hs1⟩ := sl_inv hxr
            simp only [Value.slice.injEq] at hva
            obtain ⟨rfl, rfl, rfl⟩ := hva
            obtain ⟨ad, news, rfl, hnews, hcell, hes', hnl⟩ := hs'.news h0
            have hlen2 : (l ++ l').length = l.length + l'.length := List.length_append
            rcases Nat.eq_zero_or_pos l.length with hl0 | hl0
            · have hln : l = [] := List.length_eq_zero_iff.1 hl0
              subst hln
              cases a1 with
              | none =>
                have hrun := run_append_nil (P := P) w t ty e i' z' hu T'.info T'.zer ad l'.length c' news (by rw [hnl, T'.sz]) hcell h0 (by simp at hle; omega) (by rw [T'.bytes]; simp at hby; omega)
                obtain ⟨γ', S', m1, m2, m3, m4, m5⟩ := grown_row (P := P) h hn T' hes' (xs := news) hnews 0 (by simp at hle; omega)
                exact ⟨_, _, γ', S', .inl (by rw [Sem.run_bind, show ([] : List (List PV)).length = 0 from rfl, hrun]; rfl), m1, m2, m3, m4, m5⟩
              | some b0 =>
                have hrun := run_append_grow (P := P) w t ty e i' z' hu T'.info T'.zer b0 0 0 [] (by simp) (by simp) ad l'.length c' news (by rw [hnl, T'.sz]) hcell (by omega) (by simp at hle; omega) (growslice_fits (by omega) (by rw [T'.bytes]; simpa using hby))
                obtain ⟨γ', S', m1, m2, m3, m4, m5⟩ := grown_row (P := P) h hn T' hes' (xs := news) hnews 0 (by simp at hle; omega)
                refine ⟨_, _, γ', S', .inl ?_, m1, m2, m3, m4, m5⟩
                rw [Sem.run_bind, show ([] : List (List PV)).length = 0 from rfl, hrun]
                simp
            · obtain ⟨ad1, olds, rfl, holds, hcell1, hes1, hol⟩ := hs1.news hl0
              have hrun := run_append_grow (P := P) w t ty e i' z' hu T'.info T'.zer ad1 l.length l.length olds (by rw [hol, T'.sz]) hcell1 ad l'.length c' news (by rw [hnl, T'.sz]) hcell (by omega) (by omega) (growslice_fits (by omega) (by rw [T'.bytes]; exact hby))
              have hes2 : ∀ e ∈ l ++ l', e.length = de.sz := fun e he => (List.mem_append.1 he).elim (hes1 e) (hes' e)
              obtain ⟨γ', S', m1, m2, m3, m4, m5⟩ := grown_row (P := P) h hn T' hes2 (xs := olds ++ news) (by rw [List.flatten_append]; exact holds.append hnews) l.length (by rw [hlen2]; exact hle)
              rw [hlen2] at m1 m4 m5
              rw [← List.append_toArray] at m1 m4 m5
              exact ⟨_, _, γ', S', .inl (by rw [Sem.run_bind, hrun]; rfl), m1, m2, m3, m4, m5⟩
          · cases hv
        · cases hv
      · cases hv
    · cases hv
  · cases hv
end
end Go.Proofs.Ythifckknijdgfaa.am
