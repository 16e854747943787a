/-
  A machine of values: regions that draw their order. No program is named here.
-/
import Derived.Test.YthifckknijdgfaaAm13
namespace Go.Proofs.Ythifckknijdgfaa.am
open Go.ChangeShapes Go.WideShapes Go.ChangeAt Go.RowKit
set_option linter.unusedVariables false
set_option linter.unusedSimpArgs false

/-! An operation does the same wherever what it looks at is the same -/
theorem mapM_congr' {α β : Type} {f g : α → Option β} : ∀ {l : List α}, (∀ x ∈ l, f x = g x) → l.mapM f = l.mapM g
  | [], _ => rfl
  | x :: l, h => by
    simp only [List.mapM_cons]
    rw [h x (by simp), mapM_congr' (fun y hy => h y (by simp [hy]))]
theorem parts_congr {e e' : Operand → AV} {ps : List (Nat × Operand)} (h : ∀ x ∈ ps.map (·.2), e' x = e x) : (ps.map fun p => (p.1, e' p.2)) = ps.map fun p => (p.1, e p.2) :=
  List.map_congr_left fun p hp => by rw [h p.2 (List.mem_map.2 ⟨p, hp, rfl⟩)]
theorem oav_congr {e e' : Operand → AV} {o : Option Operand} (h : ∀ x, o = some x → e' x = e x) : oav e' o = oav e o := by
  cases o with
  | none => rfl
  | some x => simp [oav, h x rfl]
theorem vload_congr {d : TD} {a : AV} {H H' : Nat → Option AO} {v : AV} {F : List Nat} (h : vload d a H = some (v, F)) (hH : ∀ x ∈ F, H' x = H x) : vload d a H' = some (v, F) := by
  unfold vload at h ⊢
  split at h
  · rename_i id off
    split at h
    · rename_i cells hc
      have hF : id ∈ F := by
        split at h
        · split at h
          · cases h; simp
          · cases h
        · obtain ⟨c, _, he⟩ := Option.map_eq_some_iff.1 h; cases he; simp
      simp only [hH id hF, hc]
      exact h
    · cases h
  · exact h
  · rename_i id es' k off
    split at h
    · rename_i e es l hc
      have hF : id ∈ F := by
        split at h
        · split at h
          · split at h
            · cases h; simp
            · cases h
          · obtain ⟨c, _, he⟩ := Option.map_eq_some_iff.1 h; cases he; simp
        · cases h
      simp only [hH id hF, hc]
      exact h
    · cases h
  · cases h
theorem vstore_congr {P : Program} {t : TypeId} {a x : AV} {H H' : Nat → Option AO} {v : AV} {F : List Nat} {W : List (Nat × Option AO)} (h : vstore P t a x H = some (v, F, W)) (hH : ∀ x ∈ F, H' x = H x) : vstore P t a x H' = some (v, F, W) := by
  unfold vstore at h ⊢
  split at h
  · rename_i id off z d hd
    split at h
    · rename_i cells hc
      split at h
      · rename_i hcond
        have hF : id ∈ F := by cases h; simp
        simp only [hH id hF, hc, hd]
        rw [if_pos hcond]; exact h
      · cases h
    · cases h
  · rename_i id es i off z d hd
    split at h
    · rename_i e es' l hc
      split at h
      · rename_i el ps hel hp
        split at h
        · rename_i hcond
          have hF : id ∈ F := by cases h; simp
          simp only [hH id hF, hc, hd, hel, hp]
          rw [if_pos hcond]; exact h
        · cases h
      · cases h
    · cases h
  · cases h
theorem vidx_congr {P : Program} {d : TD} {x : AV} {n : Int} {H H' : Nat → Option AO} {v : AV} {F : List Nat} {W : List (Nat × Option AO)} (h : vidx P d x n H = some (v, F, W)) (hH : ∀ x ∈ F, H' x = H x) : vidx P d x n H' = some (v, F, W) := by
  unfold vidx at h ⊢
  split at h
  · rename_i id es m
    split at h
    · rename_i e es' l hc
      split at h
      · rename_i hcond
        have hF : id ∈ F := by obtain ⟨c, _, he⟩ := Option.map_eq_some_iff.1 h; cases he; simp
        simp only [hH id hF, hc]
        rw [if_pos hcond]; exact h
      · cases h
    · cases h
  · exact h
theorem vappend_congr {P : Program} {d : TD} {x y : AV} {nm : Nat} {H H' : Nat → Option AO} {v : AV} {F : List Nat} {W : List (Nat × Option AO)} (h : vappend P d x y H nm = some (v, F, W)) (hH : ∀ x ∈ F, H' x = H x) : vappend P d x y H' nm = some (v, F, W) := by
  unfold vappend at h ⊢
  split at h
  · split at h
    · rename_i de hde
      split at h
      · rename_i l' hl'
        split at h
        · rename_i id es l
          split at h
          · rename_i e' es' hc
            split at h
            · rename_i hcond
              have hF : id ∈ F := by cases h; simp
              simp only [hde, hl', hH id hF, hc]
              rw [if_pos hcond]; exact h
            · cases h
          · cases h
        · exact h
        · exact h
        · cases h
      · cases h
    · cases h
  · cases h
theorem vbuiltin_congr {P : Program} {b : Builtin} {ts : List TypeId} {xs : List AV} {nm : Nat} {H H' : Nat → Option AO} {v : AV} {F : List Nat} {W : List (Nat × Option AO)} (h : vbuiltin P b ts xs H nm = some (v, F, W)) (hH : ∀ x ∈ F, H' x = H x) : vbuiltin P b ts xs H' nm = some (v, F, W) := by
  unfold vbuiltin at h ⊢
  split at h
  · exact h
  · split at h
    · rename_i ht
      rw [if_pos ht]
      obtain ⟨d, hd, h⟩ := Option.bind_eq_some_iff.1 h
      rw [hd]
      exact vappend_congr h hH
    · cases h
  · exact h
  · exact h
  · cases h
set_option maxHeartbeats 1000000 in
theorem aop_congr {P : Program} {op : Op} {e e' : Operand → AV} {H H' : Nat → Option AO} {nm : Nat} {v : AV} {F : List Nat} {W : List (Nat × Option AO)} (h : aop P op e H nm = some (v, F, W)) (he : ∀ x ∈ op.operands, e' x = e x) (hH : ∀ x ∈ F, H' x = H x) : aop P op e' H' nm = some (v, F, W) := by
  cases op with
  | move x => have := he x (by simp [Op.operands]); simp only [aop, this] at h ⊢; exact h
  | assign x => have := he x (by simp [Op.operands]); simp only [aop, this] at h ⊢; exact h
  | pick c a b => have h1 := he c (by simp [Op.operands]); have h2 := he a (by simp [Op.operands]); have h3 := he b (by simp [Op.operands]); simp only [aop, h1, h2, h3] at h ⊢; exact h
  | alloc t => exact h
  | box t x => have := he x (by simp [Op.operands]); simp only [aop, this] at h ⊢; exact h
  | build t ps =>
    have := parts_congr (e := e) (e' := e') (ps := ps.toList) (fun x hx => he x (by simpa [Op.operands] using hx))
    simp only [aop, this] at h ⊢; exact h
  | buildSlice t n ps =>
    have := parts_congr (e := e) (e' := e') (ps := ps.toList) (fun x hx => he x (by simpa [Op.operands] using hx))
    simp only [aop, this] at h ⊢; exact h
  | load t a =>
    have := he a (by simp [Op.operands])
    simp only [aop, this] at h ⊢
    obtain ⟨d, hd, h⟩ := Option.bind_eq_some_iff.1 h
    obtain ⟨r, hr, h⟩ := Option.map_eq_some_iff.1 h
    cases h
    rw [hd, Option.bind_some, vload_congr (v := r.1) (F := r.2) hr hH]; rfl
  | store t a x =>
    have h1 := he a (by simp [Op.operands]); have h2 := he x (by simp [Op.operands])
    simp only [aop, h1, h2] at h ⊢
    exact vstore_congr h hH
  | nilCheck x => have := he x (by simp [Op.operands]); simp only [aop, this] at h ⊢; exact h
  | binOp o t x y yt => have h1 := he x (by simp [Op.operands]); have h2 := he y (by simp [Op.operands]); simp only [aop, h1, h2] at h ⊢; exact h
  | unOp o t x => have := he x (by simp [Op.operands]); simp only [aop, this] at h ⊢; exact h
  | convert s d x => have := he x (by simp [Op.operands]); simp only [aop, this] at h ⊢; exact h
  | makeFunc fn a b =>
    have h1 : (a.toList.mapM fun x => capOf (e' x)) = a.toList.mapM fun x => capOf (e x) := mapM_congr' fun x hx => by rw [he x (by simp [Op.operands]; left; simpa using hx)]
    have h2 : (b.toList.mapM fun x => capOf (e' x)) = b.toList.mapM fun x => capOf (e x) := mapM_congr' fun x hx => by rw [he x (by simp [Op.operands]; right; simpa using hx)]
    simp only [aop, h1, h2] at h ⊢; exact h
  | slice t x lo hi mx =>
    have h0 := he x (by cases lo <;> cases hi <;> cases mx <;> simp [Op.operands])
    have h1 := oav_congr (e := e) (e' := e') (o := lo) (fun y hy => he y (by subst hy; simp [Op.operands]))
    have h2 := oav_congr (e := e) (e' := e') (o := hi) (fun y hy => he y (by subst hy; cases lo <;> simp [Op.operands]))
    have h3 := oav_congr (e := e) (e' := e') (o := mx) (fun y hy => he y (by subst hy; cases lo <;> cases hi <;> simp [Op.operands]))
    simp only [aop, h0, h1, h2, h3] at h ⊢; exact h
  | fieldAddr t x f => have := he x (by simp [Op.operands]); simp only [aop, this] at h ⊢; exact h
  | field t x f => have := he x (by simp [Op.operands]); simp only [aop, this] at h ⊢; exact h
  | indexAddr t x i =>
    have h1 := he x (by simp [Op.operands]); have h2 := he i (by simp [Op.operands])
    simp only [aop, h1, h2] at h ⊢
    obtain ⟨d, hd, h⟩ := Option.bind_eq_some_iff.1 h
    obtain ⟨n, hn, h⟩ := Option.bind_eq_some_iff.1 h
    rw [hd, Option.bind_some, hn, Option.bind_some]
    exact vidx_congr h hH
  | index t x i => have h1 := he x (by simp [Op.operands]); have h2 := he i (by simp [Op.operands]); simp only [aop, h1, h2] at h ⊢; exact h
  | extract x i => have := he x (by simp [Op.operands]); simp only [aop, this] at h ⊢; exact h
  | call c =>
    obtain ⟨callee, args, ats⟩ := c
    cases callee with
    | builtin b =>
      have h1 : args.toList.map e' = args.toList.map e := List.map_congr_left fun x hx => he x (by simp [Op.operands, Call.operands]; simpa using hx)
      simp only [aop, h1] at h ⊢
      exact vbuiltin_congr h hH
    | value f => cases h
    | invoke r m => cases h
  | _ => cases h
end Go.Proofs.Ythifckknijdgfaa.am
