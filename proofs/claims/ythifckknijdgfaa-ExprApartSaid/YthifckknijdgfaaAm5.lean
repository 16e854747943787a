/-
  A machine of values: memory made and turned. No program is named here.
-/
import Derived.Test.YthifckknijdgfaaAm4
namespace Go.Proofs.Ythifckknijdgfaa.am
open Go.ChangeShapes Go.WideShapes Go.ChangeAt Go.RowKit
set_option linter.unusedVariables false
set_option linter.unusedSimpArgs false

def upd {α : Type} (H : Nat → α) (x : Nat) (o : α) : Nat → α := fun y => if y = x then o else H y
theorem upd_same {α : Type} (H : Nat → α) (x : Nat) (o : α) : upd H x o x = o := by simp [upd]
theorem upd_ne {α : Type} (H : Nat → α) {x y : Nat} (o : α) (h : y ≠ x) : upd H x o y = H y := by simp [upd, h]

section
variable {X : Ctx} {H : Nat → Option AO} {U : Nat → Prop} {γ : Nat → G} {S : CS} {w : World}
theorem cell_old {w : World} {o : Obj} {b k : Nat} (h : b < w.heap.size) : (w.alloc o).cell? ⟨b, k, none⟩ = w.cell? ⟨b, k, none⟩ := by exact World.cell?_alloc_lt _ _ _ h
theorem GOn.upd_un {γ : Nat → G} {x : Nat} (h : γ x = .un) (g : G) : GOn γ (upd γ x g) := fun y => by
  by_cases hy : y = x
  · subst hy; exact .inl h
  · exact .inr (.inl (upd_ne γ g hy))

/-- A block more, under a new name. -/
theorem Mem.add (h : Mem X H U γ S w) {nm : Nat} (hn : U nm) (ob : Obj) (g : G) (hg : g.bk = some w.heap.size) (K : Nat → Prop) (o : AO)
    (hob : Obj' (upd γ nm g) (fun b k => S b k ∨ (b = w.heap.size ∧ K k)) (w.alloc ob) nm o) :
    Mem X (upd H nm (some o)) (fun x => U x ∧ x ≠ nm) (upd γ nm g) (fun b k => S b k ∨ (b = w.heap.size ∧ K k)) (w.alloc ob) := by
  have hun := h.un nm hn
  have hG := GOn.upd_un hun g
  have hS : ∀ b k, S b k → (S b k ∨ (b = w.heap.size ∧ K k)) := fun b k h => .inl h
  have hw : ∀ b k, S b k → (w.alloc ob).cell? ⟨b, k, none⟩ = w.cell? ⟨b, k, none⟩ := fun b k hs => cell_old (h.inb b k hs)
  have hsz : (w.alloc ob).heap.size = w.heap.size + 1 := by simp
  have h0 := h.size
  refine ⟨h.os, h.tape, h.output, by rw [hsz]; omega, fun b hb hx => ?_, fun b k hs => ?_, fun b k hs => ?_, fun b k hs => ?_, h.mono.trans hG, fun x hx => ?_, fun x hx => ?_, fun x o' hx => ?_, fun x y hxy b hbx hby => ?_, fun x b hb => ?_⟩
  · rw [heap_alloc_old w ob (by omega)]; exact h.frame b hb hx
  · have := h.keep b k hs
    exact ⟨.inl this.1, by rw [hw b k this.1]; exact this.2⟩
  · rcases hs with hs | ⟨rfl, _⟩
    · exact h.fresh b k hs
    · exact .inr (.inl h0)
  · rcases hs with hs | ⟨rfl, _⟩
    · have := h.inb b k hs; omega
    · omega
  · rw [upd_ne γ g hx.2]; exact h.un x hx.1
  · by_cases hxn : x = nm
    · subst hxn; rw [upd_same] at hx; cases hx
    · rw [upd_ne _ _ hxn] at hx ⊢; exact h.off x hx
  · by_cases hxn : x = nm
    · subst hxn; rw [upd_same] at hx; cases hx; exact hob
    · rw [upd_ne _ _ hxn] at hx
      refine Obj'.on (h.obj x o' hx) (upd_ne γ g hxn) hG hS hw (fun b hb => ?_)
      have hl := (h.live x b hb).1
      exact ⟨heap_alloc_old w ob hl, fun k hk => hk.elim id (fun e => by omega)⟩
  · by_cases hxn : x = nm
    · subst hxn
      rw [upd_same, hg] at hbx; cases hbx
      rw [upd_ne _ _ (Ne.symm hxy)] at hby
      have := (h.live y _ hby).1; omega
    · by_cases hyn : y = nm
      · subst hyn
        rw [upd_same, hg] at hby; cases hby
        rw [upd_ne _ _ hxy] at hbx
        have := (h.live x _ hbx).1; omega
      · rw [upd_ne _ _ hxn] at hbx; rw [upd_ne _ _ hyn] at hby
        exact h.dist x y hxy b hbx hby
  · by_cases hxn : x = nm
    · subst hxn
      rw [upd_same, hg] at hb; cases hb
      exact ⟨by omega, .inl h0⟩
    · rw [upd_ne _ _ hxn] at hb
      have := h.live x b hb
      exact ⟨by omega, this.2⟩

/-- A block that a name leads to is turned; nothing in it is kept. -/
theorem Mem.turn (h : Mem X H U γ S w) {id : Nat} {b : Nat} (hx : (γ id).bk = some b) {w' : World} (os : w'.os = w.os) (tape : w'.tape = w.tape) (out : w'.output = w.output) (size : w'.heap.size = w.heap.size)
    (hoth : ∀ k, k ≠ b → w'.heap[k]? = w.heap[k]?) (hS : ∀ o, ¬ S b o) (o : AO) (hob : Obj' γ S w' id o) : Mem X (upd H id (some o)) U γ S w' := by
  have hw : ∀ b' k, S b' k → w'.cell? ⟨b', k, none⟩ = w.cell? ⟨b', k, none⟩ := fun b' k hs => World.cell?_of_block (hoth b' (fun e => hS k (e ▸ hs)))
  refine ⟨os.trans h.os, tape.trans h.tape, out.trans h.output, by rw [size]; exact h.size, fun b' hb' hx' => ?_, fun b' k hs => ?_, h.fresh, fun b' k hs => by rw [size]; exact h.inb b' k hs, h.mono, h.un, fun x hx' => ?_, fun x o' hx' => ?_, h.dist, fun x b' hb' => by rw [size]; exact h.live x b' hb'⟩
  · rw [hoth b' (fun e => ?_)]
    · exact h.frame b' hb' hx'
    · subst e
      rcases (h.live id b' hx).2 with k | ⟨y, hy⟩
      · omega
      · exact hx' y hy
  · have := h.keep b' k hs
    exact ⟨this.1, by rw [hw b' k this.1]; exact this.2⟩
  · by_cases hxn : x = id
    · subst hxn; rw [upd_same] at hx'; cases hx'
    · rw [upd_ne _ _ hxn] at hx'; exact h.off x hx'
  · by_cases hxn : x = id
    · subst hxn; rw [upd_same] at hx'; cases hx'; exact hob
    · rw [upd_ne _ _ hxn] at hx'
      exact Obj'.on (h.obj x o' hx') rfl (GOn.refl _) (fun _ _ h => h) hw (fun b' hb' => ⟨hoth b' (fun e => h.dist x id hxn b' hb' (e ▸ hx)), fun _ h => h⟩)
end

/-- What an operation comes to. -/
def Stp (X : Ctx) (H' : Nat → Option AO) (U' : Nat → Prop) (γ : Nat → G) (S : CS) (w : World) (r : Result Go.Next) (v : AV) : Prop :=
  ∃ (u : Value) (w' : World) (γ' : Nat → G) (S' : CS), (r = .ok (.value u) w' ∨ (r = .ok .skip w' ∧ u = undef)) ∧ Mem X H' U' γ' S' w' ∧ GOn γ γ' ∧ (∀ b o, S b o → S' b o) ∧ (∀ b o, S b o → w'.cell? ⟨b, o, none⟩ = w.cell? ⟨b, o, none⟩) ∧ RepV γ' S' w' u v

/-! A variable made -/
section
variable {X : Ctx} {H : Nat → Option AO} {U : Nat → Prop} {γ : Nat → G} {S : CS} {w : World} {P : Program}
theorem newbox (h : Mem X H U γ S w) {nm : Nat} (hn : U nm) (cs : Array Value) (t : TypeId) {cells : List AC} (hc : RepCs γ S w cs.toList cells) :
    ∃ γ' S', Mem X (upd H nm (some (.box cells))) (fun x => U x ∧ x ≠ nm) γ' S' (w.alloc (.cells cs t)) ∧ GOn γ γ' ∧ (∀ b o, S b o → S' b o) ∧ (∀ b o, S b o → (w.alloc (.cells cs t)).cell? ⟨b, o, none⟩ = w.cell? ⟨b, o, none⟩) ∧
      RepV γ' S' (w.alloc (.cells cs t)) (.pointer (some ⟨w.heap.size, 0, none⟩)) (.v (.c (.ptr nm 0))) := by
  have hG := GOn.upd_un (h.un nm hn) (.blk w.heap.size)
  have hw : ∀ b k, S b k → (w.alloc (.cells cs t)).cell? ⟨b, k, none⟩ = w.cell? ⟨b, k, none⟩ := fun b k hs => cell_old (h.inb b k hs)
  refine ⟨_, _, h.add hn (.cells cs t) (.blk w.heap.size) rfl (fun _ => False) (.box cells) ⟨w.heap.size, cs, t, upd_same _ _ _, heap_alloc_new w _, hc.mono hG (fun _ _ h => .inl h) hw, fun o ho => ?_⟩, hG, fun _ _ h => .inl h, hw, w.heap.size, upd_same _ _ _, rfl⟩
  rcases ho with ho | ⟨_, ho⟩
  · have := h.inb _ _ ho; omega
  · exact ho

/-- The cells of a value that is boxed, stored. -/
def cellsT : AT → List AC
  | .c x => [x]
  | .agg l => l
theorem cellsT_rep {v : Value} {x : AT} (h : RepT γ S w v x) : RepCs γ S w v.cells.toList (cellsT x) := by
  cases x with
  | c x =>
    have h1 : v.cells = #[v] := by have := RepC.one h; cases v <;> simp_all [Value.cells, Value.oneCell']
    rw [h1]
    refine ⟨rfl, fun i c hc => ?_⟩
    cases i with
    | zero => simp [cellsT] at hc; subst hc; exact ⟨v, rfl, h⟩
    | succ i => simp [cellsT] at hc
  | agg l => obtain ⟨cs, rfl, h2⟩ := h; exact h2
theorem box_sound (h : Mem X H U γ S w) {nm : Nat} (hn : U nm) (t : TypeId) {v : Value} {x : AT} (hv : RepT γ S w v x) (r : Go.Next → Sem Go.Next) :
    Stp X (upd H nm (some (.box (cellsT x)))) (fun x => U x ∧ x ≠ nm) γ S w ((do pure (.value (← Instr.box t v)) : Sem Go.Next).run P w) (.v (.c (.ptr nm 0))) := by
  obtain ⟨γ', S', h1, h2, h3, h4, h5⟩ := newbox h hn v.cells t (cellsT_rep hv)
  exact ⟨_, _, γ', S', .inl (by simp [Instr.box, newVar, newRow, newObj, Sem.run]), h1, h2, h3, h4, h5⟩
theorem alloc_sound (h : Mem X H U γ S w) {nm : Nat} (hn : U nm) {t : TypeId} {d : TD} (hd : td P t = some d) :
    Stp X (upd H nm (some (.box (d.zero.map .pv)))) (fun x => U x ∧ x ≠ nm) γ S w ((do pure (.value (← Instr.alloc t true (.tuple #[]))) : Sem Go.Next).run P w) (.v (.c (.ptr nm 0))) := by
  obtain ⟨i, ud, z, T⟩ := td_ok hd
  obtain ⟨γ', S', h1, h2, h3, h4, h5⟩ := newbox h hn z.cells t (T.rep γ S w)
  exact ⟨_, _, γ', S', .inl (by simp [Instr.alloc, T.zero, newVar, newRow, newObj, Sem.run]), h1, h2, h3, h4, h5⟩

/-! A variable turned -/
theorem RepCs.take {vs : List Value} {l : List AC} (h : RepCs γ S w vs l) (n : Nat) : RepCs γ S w (vs.take n) (l.take n) := by
  have := h.seg 0 n; simpa using this
theorem RepCs.drop {vs : List Value} {l : List AC} (h : RepCs γ S w vs l) (n : Nat) : RepCs γ S w (vs.drop n) (l.drop n) := by
  have := h.seg n vs.length
  rwa [List.take_of_length_le (by simp), List.take_of_length_le (by rw [List.length_drop, ← h.1]; omega)] at this
theorem RepCs.append {vs us : List Value} {l m : List AC} (h : RepCs γ S w vs l) (k : RepCs γ S w us m) : RepCs γ S w (vs ++ us) (l ++ m) := by
  refine ⟨by simp [h.1, k.1], fun i c hc => ?_⟩
  rw [List.getElem?_append] at hc ⊢
  split at hc
  · rename_i hi; obtain ⟨v, h1, h2⟩ := h.2 i c hc; exact ⟨v, by rw [if_pos (by rw [h.1]; exact hi)]; exact h1, h2⟩
  · rename_i hi; obtain ⟨v, h1, h2⟩ := k.2 _ c hc; exact ⟨v, by rw [if_neg (by rw [h.1]; exact hi), h.1]; exact h1, h2⟩
theorem RepCs.ones {vs : List Value} {l : List AC} (h : RepCs γ S w vs l) : ∀ v ∈ vs, v.oneCell' = true := fun v hv => by
  obtain ⟨i, hi⟩ := List.getElem?_of_mem hv
  obtain ⟨c, hc⟩ := getElem?_lift h.1 hi
  obtain ⟨v', h1, h2⟩ := h.2 i c hc
  rw [hi] at h1; cases h1
  exact h2.one
def setSeg {α : Type} (l : List α) (o : Nat) (m : List α) : List α := l.take o ++ m ++ l.drop (o + m.length)
theorem RepCs.seg' {vs us : List Value} {l m : List AC} (h : RepCs γ S w vs l) (k : RepCs γ S w us m) (o : Nat) : RepCs γ S w (setSeg vs o us) (setSeg l o m) := by
  unfold setSeg; rw [k.1]; exact ((h.take o).append k).append (h.drop _)

theorem store_box (h : Mem X H U γ S w) {id off : Nat} {cells : List AC} (hH : H id = some (.box cells)) {t : TypeId} {d : TD} (hd : td P t = some d) {a v : Value} (ha : RepV γ S w a (.v (.c (.ptr id off)))) {x : AT} (hv : RepT γ S w v x) (hsz : (cellsT x).length = d.sz) (hfit : off + d.sz ≤ cells.length) :
    Stp X (upd H id (some (.box (setSeg cells off (cellsT x))))) U γ S w ((do Instr.storeAt t a v; pure .skip : Sem Go.Next).run P w) .top := by
  obtain ⟨i, ud, z, T⟩ := td_ok hd
  obtain ⟨b, hb, rfl⟩ := ha
  obtain ⟨b', cs, tt, g1, g2, g3, g4⟩ := h.obj _ _ hH
  rw [g1] at hb; cases hb
  have hc := cellsT_rep hv
  have hst := run_storeCells_at P b off tt v.cells.toList 0 cs w g2 (by rw [hc.1, hsz]; have := g3.1; simp at this; omega) hc.ones
  simp only [Nat.add_zero] at hst
  have hvs : v.cells.size = d.sz := by rw [← hsz, ← hc.1]; simp
  have hbb : (γ id).bk = some b := by rw [g1]; rfl
  have hoth : ∀ k, k ≠ b → (w.setRow b (setSeg cs.toList off v.cells.toList).toArray).heap[k]? = w.heap[k]? := fun k hk => setRow_other w b k _ hk
  have hw : ∀ b' k, S b' k → (w.setRow b (setSeg cs.toList off v.cells.toList).toArray).cell? ⟨b', k, none⟩ = w.cell? ⟨b', k, none⟩ := fun b' k hs => World.cell?_of_block (hoth b' (fun e => g4 k (e ▸ hs)))
  have hsize : (w.setRow b (setSeg cs.toList off v.cells.toList).toArray).heap.size = w.heap.size := by simp [World.setRow]
  refine ⟨undef, w.setRow b (setSeg cs.toList off v.cells.toList).toArray, γ, S, .inr ⟨?_, rfl⟩, h.turn (w' := w.setRow b (setSeg cs.toList off v.cells.toList).toArray) hbb rfl rfl rfl hsize hoth g4 (.box (setSeg cells off (cellsT x))) ⟨b, _, tt, g1, setRow_heap w b cs _ tt _ g2, ?_, g4⟩, GOn.refl _, fun _ _ h => h, hw, trivial⟩
  · simp only [Sem.run_bind, Instr.storeAt, Instr.sureAddr, Sem.run_pure, Result.andThen_ok, storeVar, T.sizeOf, hvs]
    simp [hst, setSeg]
  · exact (g3.seg' hc off).mono (GOn.refl _) (fun _ _ h => h) hw
end
end Go.Proofs.Ythifckknijdgfaa.am
