/-
  A machine of values: any operation but a call of a function. No program is named here.
-/
import Derived.Test.YthifckknijdgfaaAm8
import Derived.BigFrame
namespace Go.Proofs.Ythifckknijdgfaa.am
open Go.ChangeShapes Go.WideShapes Go.ChangeAt Go.RowKit
set_option linter.unusedVariables false
set_option linter.unusedSimpArgs false

def vun (op : UnOp) (x : AV) : Option AV :=
  match op, x with
  | .not, .v (.c (.pv (.lit (.bool b)))) => some (.v (.c (.pv (.lit (.bool (!b))))))
  | .not, .v (.c .flag) => some (.v (.c .flag))
  | .neg, .v (.c (.pv (.lit (.int k n)))) => some (.v (.c (.pv (.lit (.int k (k.wrap (0 - n)))))))
  | _, _ => none
def vconv (P : Program) (src dst : TypeId) (x : AV) : Option AV :=
  match td P src, td P dst, x with
  | some _, some d, .v (.c (.pv (.lit (.int _ n)))) => (match d.tag with | .int k => some (.v (.c (.pv (.lit (.int k (k.wrap n)))))) | _ => none)
  | some s, some d, .v (.c (.pv (.lit (.string b)))) => (match s.tag, d.tag with | .string, .string => some (.v (.c (.pv (.lit (.string b))))) | _, _ => none)
  | _, _, _ => none
def capOf : AV → Option Cap
  | .v (.c (.ptr id off)) => some (.ptr id off)
  | .v (.c (.pv p)) => some (.pv p)
  | .v (.c (.row _ es l)) => some (.pv (.sl es l))
  | .v (.c (.cut es l)) => some (.pv (.sl es l))
  | _ => none
def vnil : AV → Option AV
  | .v (.c (.ptr id off)) => some (.v (.c (.ptr id off)))
  | .rp c o => some (.rp c o)
  | .ep id es i o => some (.ep id es i o)
  | _ => none
def vext (x : AV) (i : Nat) : Option AV :=
  match x with
  | .tup l => (l[i]?).map .v
  | _ => none
def vmin (b : Bool) : List AV → Option AV
  | [.v (.c (.pv (.lit (.int k x)))), .v (.c (.pv (.lit (.int _ y))))] => some (.v (.c (.pv (.lit (.int k (if b = true then (if y < x then y else x) else (if x < y then y else x)))))))
  | _ => none
def vstore (P : Program) (t : TypeId) (a x : AV) (H : Nat → Option AO) : Option (AV × List Nat × List (Nat × Option AO)) :=
  match a, x, td P t with
  | .v (.c (.ptr id off)), .v x, some d =>
    match H id with
    | some (.box cells) => if (cellsT x).length = d.sz ∧ off + d.sz ≤ cells.length then some (.top, [id], [(id, some (.box (setSeg cells off (cellsT x))))]) else none
    | _ => none
  | _, _, _ => none
def vidx (P : Program) (d : TD) (x : AV) (n : Int) (H : Nat → Option AO) : Option (AV × List Nat × List (Nat × Option AO)) :=
  match x with
  | .v (.c (.arr id es m)) =>
    match H id with
    | some (.arr _ es' l) => if es' = es ∧ m = l.length then (vindexAddr P d x n).map fun v => (v, [id], []) else none
    | _ => none
  | _ => (vindexAddr P d x n).map fun v => (v, [], [])
def vbuiltin (P : Program) (b : Builtin) (ts : List TypeId) (xs : List AV) (H : Nat → Option AO) (nm : Nat) : Option (AV × List Nat × List (Nat × Option AO)) :=
  match b, ts, xs with
  | .len, [t], [x] => (td P t).bind fun d => (vlen d x).map fun v => (v, [], [])
  | .append, [t, t'], [x, y] => if t = t' then (td P t).bind fun d => vappend P d x y H nm else none
  | .min, _, xs => (vmin true xs).map fun v => (v, [], [])
  | .max, _, xs => (vmin false xs).map fun v => (v, [], [])
  | _, _, _ => none
def oav (e : Operand → AV) : Option Operand → Option AV
  | some x => some (e x)
  | none => none
/-- An operation: what it gives, which names it looks at, what it writes. -/
def aop (P : Program) (op : Op) (e : Operand → AV) (H : Nat → Option AO) (nm : Nat) : Option (AV × List Nat × List (Nat × Option AO)) :=
  match op with
  | .move x => some (e x, [], [])
  | .assign x => some (e x, [], [])
  | .pick c a b => match e c with
    | .v (.c (.pv (.lit (.bool t)))) => some (if t = true then e a else e b, [], [])
    | _ => none
  | .alloc t => (td P t).map fun d => (.v (.c (.ptr nm 0)), [], [(nm, some (.box (d.zero.map .pv)))])
  | .box _ x => match e x with
    | .v x => some (.v (.c (.ptr nm 0)), [], [(nm, some (.box (cellsT x)))])
    | _ => none
  | .build t parts => (td P t).bind fun d => (vbuild d (parts.toList.map fun p => (p.1, e p.2))).map fun v => (v, [], [])
  | .buildSlice t len parts => (td P t).bind fun d => (vbuildSlice P d len (parts.toList.map fun p => (p.1, e p.2)) nm).map fun r => (r.1, [], [(nm, some (.row r.2.1 r.2.2))])
  | .load t a => (td P t).bind fun d => (vload d (e a) H).map fun r => (r.1, r.2, [])
  | .store t a x => vstore P t (e a) (e x) H
  | .nilCheck x => (vnil (e x)).map fun v => (v, [], [])
  | .binOp op t x y _ => (vbin P op t (e x) (e y)).map fun v => (v, [], [])
  | .unOp op _ x => (vun op (e x)).map fun v => (v, [], [])
  | .convert src dst x => (vconv P src dst (e x)).map fun v => (v, [], [])
  | .makeFunc fn first caps => match first.toList.mapM fun x => capOf (e x), caps.toList.mapM fun x => capOf (e x) with
    | some a, some b => some (.v (.c (.fn fn a b)), [], [])
    | _, _ => none
  | .slice t x lo hi mx => (td P t).bind fun d => (vslice P d (e x) (oav e lo) (oav e hi) (oav e mx)).map fun v => (v, [], [])
  | .fieldAddr t x f => (td P t).bind fun d => (vfieldAddr d (e x) f).map fun v => (v, [], [])
  | .field t x f => (td P t).bind fun d => (vfield d (e x) f).map fun v => (v, [], [])
  | .indexAddr t x i => (td P t).bind fun d => (asInt? (e i)).bind fun n => vidx P d (e x) n H
  | .index t x i => (td P t).bind fun d => (asInt? (e i)).bind fun n => (vindex d (e x) n).map fun v => (v, [], [])
  | .extract x i => (vext (e x) i).map fun v => (v, [], [])
  | .call c => match c.callee with
    | .builtin b => vbuiltin P b c.argTypes.toList (c.args.toList.map e) H nm
    | _ => none
  | _ => none

section
variable {X : Ctx} {H : Nat → Option AO} {U : Nat → Prop} {γ : Nat → G} {S : CS} {w : World} {P : Program}
theorem Mem.less (h : Mem X H U γ S w) {U' : Nat → Prop} (hU : ∀ x, U' x → U x) : Mem X H U' γ S w := { h with un := fun x hx => h.un x (hU x hx) }
/-- Nothing was turned. -/
theorem Stp.same (h : Mem X H U γ S w) {nm : Nat} {r : Result Go.Next} {u : Value} {v : AV} (hr : r = .ok (.value u) w) (hv : RepV γ S w u v) : Stp X H (fun x => U x ∧ x ≠ nm) γ S w r v :=
  ⟨u, w, γ, S, .inl hr, h.less (fun x hx => hx.1), GOn.refl _, fun _ _ h => h, fun _ _ _ => rfl, hv⟩
theorem Stp.val (h : Mem X H U γ S w) {nm : Nat} {s : Sem Value} {u : Value} {v : AV} (hr : s.run P w = .ok u w) (hv : RepV γ S w u v) : Stp X H (fun x => U x ∧ x ≠ nm) γ S w ((do pure (.value (← s)) : Sem Go.Next).run P w) v :=
  Stp.same h (u := u) (by rw [Sem.run_bind, hr]; rfl) hv
theorem caps_rep {f : Operand → Value} {g : Operand → AV} (h : ∀ x, RepV γ S w (f x) (g x)) {xs : Array Operand} {l : List Cap} (hl : (xs.toList.mapM fun x => capOf (g x)) = some l) : RepCaps γ S w (xs.map f).toList l := by
  obtain ⟨h1, h2⟩ := mapM_at hl
  refine ⟨by simpa using h1, fun i c hi => ?_⟩
  obtain ⟨x, k1, k2⟩ := h2 i c hi
  refine ⟨f x, ?_, ?_⟩
  · have : xs[i]? = some x := by simpa using k1
    simp [this]
  · have hx := h x
    unfold capOf at k2
    split at k2
    · rename_i he; rw [he] at hx; cases k2; exact hx
    · rename_i he; rw [he] at hx; cases k2; exact hx
    · rename_i he; rw [he] at hx; cases k2; exact hx.1
    · rename_i he; rw [he] at hx; cases k2; exact hx.1
    · cases k2
theorem oav_some {e : Operand → AV} {f : Operand → Value} (h : ∀ x, RepV γ S w (f x) (e x)) (o : Option Operand) : (∀ v, oav e o = some v → ∃ u, o.map f = some u ∧ RepV γ S w u v) ∧ (oav e o = none → o.map f = none) := by
  cases o with
  | none => exact ⟨fun v hv => (by cases hv), fun _ => rfl⟩
  | some x => exact ⟨fun v hv => (by cases hv; exact ⟨_, rfl, h x⟩), fun hv => (by cases hv)⟩
theorem vun_sound {op : UnOp} {x v : AV} (h : vun op x = some v) {a : Value} (hx : RepV γ S w a x) : ∃ u, (Op.unary op a).run P w = .ok u w ∧ RepV γ S w u v := by
  unfold vun at h
  split at h
  · cases h; obtain ⟨rfl, _⟩ := lit_inv hx; exact ⟨_, by simp [Op.unary], lit_rep rfl⟩
  · cases h; obtain ⟨b, rfl⟩ := hx; exact ⟨.bool (!b), by simp [Op.unary], ⟨_, rfl⟩⟩
  · cases h; obtain ⟨rfl, _⟩ := lit_inv hx; exact ⟨_, by simp [Op.unary, Op.intArith], lit_rep rfl⟩
  · cases h
theorem vconv_sound {src dst : TypeId} {x v : AV} (h : vconv P src dst x = some v) {a : Value} (hx : RepV γ S w a x) : ∃ u, (convert src dst a).run P w = .ok u w ∧ RepV γ S w u v := by
  unfold vconv at h
  split at h
  · rename_i d1 d2 k n h1 h2
    obtain ⟨_, _, _, T1⟩ := td_ok h1
    obtain ⟨_, _, _, T2⟩ := td_ok h2
    split at h
    · rename_i k' htag
      cases h
      obtain ⟨rfl, _⟩ := lit_inv hx
      exact ⟨_, by simp [convert, run_underlying T1.und, run_underlying (T2.uint htag), Conv.intToInt], lit_rep rfl⟩
    · cases h
  · rename_i d1 d2 b h1 h2
    obtain ⟨_, _, _, T1⟩ := td_ok h1
    obtain ⟨_, _, _, T2⟩ := td_ok h2
    split at h
    · rename_i htag1 htag2
      cases h
      obtain ⟨rfl, _⟩ := lit_inv hx
      exact ⟨_, by simp [convert, run_underlying (T1.ustring htag1), run_underlying (T2.ustring htag2)], lit_rep rfl⟩
    · cases h
  · cases h
theorem vnil_sound {x v : AV} (h : vnil x = some v) {a : Value} (hx : RepV γ S w a x) : RepV γ S w a v ∧ ∃ ad, a = .pointer (some ad) := by
  unfold vnil at h
  split at h
  · cases h; obtain ⟨b, h1, rfl⟩ := hx; exact ⟨⟨b, h1, rfl⟩, _, rfl⟩
  · cases h; obtain ⟨b, o, rfl, h1⟩ := hx; exact ⟨⟨b, o, rfl, h1⟩, _, rfl⟩
  · cases h; obtain ⟨b, rfl, h1⟩ := hx; exact ⟨⟨b, rfl, h1⟩, _, rfl⟩
  · cases h
theorem vext_sound {x v : AV} {i : Nat} (h : vext x i = some v) {a : Value} (hx : RepV γ S w a x) : ∃ u, (Instr.extract a i).run P w = .ok u w ∧ RepV γ S w u v := by
  unfold vext at h
  split at h
  · obtain ⟨t, ht, rfl⟩ := Option.map_eq_some_iff.1 h
    obtain ⟨cs, rfl, h1⟩ := hx
    obtain ⟨u, k1, k2⟩ := h1.2 i t ht
    have k1' : cs[i]? = some u := by simpa using k1
    exact ⟨u, by simp [Instr.extract, k1'], k2⟩
  · cases h
theorem vmin_sound {b : Bool} {xs : List AV} {v : AV} (h : vmin b xs = some v) {vs : Array Value} (hx : vs.size = xs.length ∧ ∀ (i : Nat) x, xs[i]? = some x → ∃ u, vs[i]? = some u ∧ RepV γ S w u x) (ts : Array TypeId) (ty : TypeId) :
    ∃ u, ((if b = true then Builtin.min_ ts ty vs else Builtin.max_ ts ty vs)).run P w = .ok u w ∧ RepV γ S w u v := by
  unfold vmin at h
  split at h
  · rename_i k x k' y
    cases h
    obtain ⟨u0, h0, r0⟩ := hx.2 0 _ rfl
    obtain ⟨u1, h1, r1⟩ := hx.2 1 _ rfl
    obtain ⟨rfl, _⟩ := lit_inv r0
    obtain ⟨rfl, _⟩ := lit_inv r1
    have hvs : vs = #[.int k x, .int k' y] := by
      apply Array.ext'
      apply List.ext_getElem?
      intro i
      have h0' : vs.toList[0]? = some (.int k x) := by simpa using h0
      have h1' : vs.toList[1]? = some (.int k' y) := by simpa using h1
      match i with
      | 0 => rw [h0']; rfl
      | 1 => rw [h1']; rfl
      | i + 2 =>
        have : vs.toList.length = 2 := by simpa using hx.1
        rw [List.getElem?_eq_none (by omega)]; rfl
    subst hvs
    cases b <;> simp only [Bool.false_eq_true, if_false, if_true]
    · exact ⟨.int k (if x < y then y else x), by simp [Builtin.max_, Builtin.max2], lit_rep rfl⟩
    · exact ⟨.int k (if y < x then y else x), by simp [Builtin.min_, Builtin.min2], lit_rep rfl⟩
  · cases h

theorem asInt_k {x : AV} {n : Int} (h : asInt? x = some n) {a : Value} (ha : RepV γ S w a x) : ∃ k, a = .int k n := asInt_inv ha h
theorem args_rep {f : Operand → Value} {g : Operand → AV} (h : ∀ x, RepV γ S w (f x) (g x)) (xs : Array Operand) : (xs.map f).size = (xs.toList.map g).length ∧ ∀ (i : Nat) x, (xs.toList.map g)[i]? = some x → ∃ u, (xs.map f)[i]? = some u ∧ RepV γ S w u x := by
  refine ⟨by simp, fun i x hi => ?_⟩
  rw [List.getElem?_map] at hi
  obtain ⟨y, hy, rfl⟩ := Option.map_eq_some_iff.1 hi
  refine ⟨f y, ?_, h y⟩
  have : xs[i]? = some y := by simpa using hy
  simp [this]
theorem args_two {vs : Array Value} {x y : AV} (h : vs.size = [x, y].length ∧ ∀ (i : Nat) z, [x, y][i]? = some z → ∃ u, vs[i]? = some u ∧ RepV γ S w u z) : ∃ a b, vs = #[a, b] ∧ RepV γ S w a x ∧ RepV γ S w b y := by
  obtain ⟨u0, h0, r0⟩ := h.2 0 _ rfl
  obtain ⟨u1, h1, r1⟩ := h.2 1 _ rfl
  refine ⟨u0, u1, ?_, r0, r1⟩
  apply Array.ext'
  apply List.ext_getElem?
  intro i
  match i with
  | 0 => simpa using h0
  | 1 => simpa using h1
  | i + 2 =>
    have : vs.toList.length = 2 := by simpa using h.1
    rw [List.getElem?_eq_none (by omega)]; rfl
theorem args_one {vs : Array Value} {x : AV} (h : vs.size = [x].length ∧ ∀ (i : Nat) z, [x][i]? = some z → ∃ u, vs[i]? = some u ∧ RepV γ S w u z) : ∃ a, vs = #[a] ∧ RepV γ S w a x := by
  obtain ⟨u0, h0, r0⟩ := h.2 0 _ rfl
  refine ⟨u0, ?_, r0⟩
  apply Array.ext'
  apply List.ext_getElem?
  intro i
  match i with
  | 0 => simpa using h0
  | i + 1 =>
    have : vs.toList.length = 1 := by simpa using h.1
    rw [List.getElem?_eq_none (by omega)]; rfl
theorem builtin_sound (h : Mem X H U γ S w) {nm : Nat} (hn : U nm) {b : Builtin} {ts : Array TypeId} {xs : List AV} {v : AV} {F : List Nat} {W : List (Nat × Option AO)} (hv : vbuiltin P b ts.toList xs H nm = some (v, F, W)) (ty : TypeId) (cs : Array Bool) {vs : Array Value}
    (hx : vs.size = xs.length ∧ ∀ (i : Nat) x, xs[i]? = some x → ∃ u, vs[i]? = some u ∧ RepV γ S w u x) :
    Stp X (W.foldl (fun H p => upd H p.1 p.2) H) (fun x => U x ∧ x ≠ nm) γ S w ((builtin b ts ty cs vs).run P w) v := by
  unfold vbuiltin at hv
  split at hv
  · rename_i t x hts
    obtain ⟨d, hd, hv⟩ := Option.bind_eq_some_iff.1 hv
    obtain ⟨v', hv', hv⟩ := Option.map_eq_some_iff.1 hv
    simp only [Prod.mk.injEq] at hv; obtain ⟨rfl, rfl, rfl⟩ := hv
    obtain ⟨a, rfl, ha⟩ := args_one hx
    obtain rfl : ts = #[t] := by apply Array.ext'; rw [hts]
    obtain ⟨u, h1, h2⟩ := vlen_sound hd hv' ty ha
    exact Stp.val h h1 h2
  · rename_i t t' x y hts
    split at hv
    · rename_i htt
      subst htt
      obtain ⟨d, hd, hv⟩ := Option.bind_eq_some_iff.1 hv
      obtain ⟨a, b, rfl, ha, hb⟩ := args_two hx
      obtain rfl : ts = #[t, t] := by apply Array.ext'; rw [hts]
      exact vappend_sound h hn hd hv ty ha hb
    · cases hv
  · obtain ⟨v', hv', hv⟩ := Option.map_eq_some_iff.1 hv
    simp only [Prod.mk.injEq] at hv; obtain ⟨rfl, rfl, rfl⟩ := hv
    obtain ⟨u, h1, h2⟩ := vmin_sound (P := P) hv' hx ts ty
    exact Stp.val h h1 h2
  · obtain ⟨v', hv', hv⟩ := Option.map_eq_some_iff.1 hv
    simp only [Prod.mk.injEq] at hv; obtain ⟨rfl, rfl, rfl⟩ := hv
    obtain ⟨u, h1, h2⟩ := vmin_sound (P := P) hv' hx ts ty
    exact Stp.val h h1 h2
  · cases hv
theorem idx_sound (h : Mem X H U γ S w) {nm : Nat} {t : TypeId} {d : TD} (hd : td P t = some d) {x v : AV} {n : Int} {F : List Nat} {W : List (Nat × Option AO)} (hv : vidx P d x n H = some (v, F, W)) {a : Value} (ha : RepV γ S w a x) (k : IntKind) :
    Stp X (W.foldl (fun H p => upd H p.1 p.2) H) (fun x => U x ∧ x ≠ nm) γ S w ((do pure (.value (← Instr.indexAt t a (.int k n))) : Sem Go.Next).run P w) v := by
  unfold vidx at hv
  split at hv
  · rename_i id es m
    split at hv
    · rename_i e' es' l hH
      split at hv
      · rename_i hm
        obtain ⟨rfl, rfl⟩ := hm
        obtain ⟨v', hv', hv⟩ := Option.map_eq_some_iff.1 hv
        simp only [Prod.mk.injEq] at hv; obtain ⟨rfl, rfl, rfl⟩ := hv
        obtain ⟨u, h1, h2⟩ := vindexAddr_sound hd hv' h.obj (fun id' es2 m' he' => by cases he'; exact ⟨e', l, hH, rfl⟩) ha k
        exact Stp.val h h1 h2
      · cases hv
    · cases hv
  · rename_i hna
    obtain ⟨v', hv', hv⟩ := Option.map_eq_some_iff.1 hv
    simp only [Prod.mk.injEq] at hv; obtain ⟨rfl, rfl, rfl⟩ := hv
    obtain ⟨u, h1, h2⟩ := vindexAddr_sound hd hv' h.obj (fun id es m he' => absurd he' (hna _ _ _)) ha k
    exact Stp.val h h1 h2

set_option maxHeartbeats 2000000 in
theorem aop_sound (h : Mem X H U γ S w) {nm : Nat} (hn : U nm) {a : Act} {T : Nat → AV} (ha : ∀ t, RepV γ S w (a.tmps.getD t undef) (T t)) (o : Oper) {v : AV} {F : List Nat} {W : List (Nat × Option AO)} (hv : aop P o.op (evA T) H nm = some (v, F, W)) :
    Stp X (W.foldl (fun H p => upd H p.1 p.2) H) (fun x => U x ∧ x ≠ nm) γ S w ((execOp a.eval o).run P w) v := by
  have he : ∀ x, RepV γ S w (a.eval x) (evA T x) := evA_rep ha
  obtain ⟨dst, op, ty, pos, after, guard⟩ := o
  dsimp only at hv
  cases op with
  | move x =>
    simp only [aop, Option.some.injEq, Prod.mk.injEq] at hv; obtain ⟨rfl, rfl, rfl⟩ := hv
    exact Stp.same h (u := a.eval x) rfl (he _)
  | assign x =>
    simp only [aop, Option.some.injEq, Prod.mk.injEq] at hv; obtain ⟨rfl, rfl, rfl⟩ := hv
    exact Stp.same h (u := a.eval x) rfl (he _)
  | pick c x y =>
    simp only [aop] at hv
    split at hv
    · rename_i t hc
      simp only [Option.some.injEq, Prod.mk.injEq] at hv; obtain ⟨rfl, rfl, rfl⟩ := hv
      have := he c; rw [hc] at this
      obtain ⟨hce, _⟩ := lit_inv this
      refine Stp.same h (u := if t = true then a.eval x else a.eval y) (by simp [execOp, hce, asBool]) ?_
      split
      · exact he x
      · exact he y
    · cases hv
  | alloc t =>
    obtain ⟨d, hd, hv⟩ := Option.map_eq_some_iff.1 hv
    simp only [Prod.mk.injEq] at hv; obtain ⟨rfl, rfl, rfl⟩ := hv
    exact alloc_sound h hn hd
  | box t x =>
    simp only [aop] at hv
    split at hv
    · rename_i y hy
      simp only [Option.some.injEq, Prod.mk.injEq] at hv; obtain ⟨rfl, rfl, rfl⟩ := hv
      have := he x; rw [hy] at this
      exact box_sound h hn t this pure
    · cases hv
  | build t parts =>
    obtain ⟨d, hd, hv⟩ := Option.bind_eq_some_iff.1 hv
    obtain ⟨v', hv', hv⟩ := Option.map_eq_some_iff.1 hv
    simp only [Prod.mk.injEq] at hv; obtain ⟨rfl, rfl, rfl⟩ := hv
    have hp := partsR_map a.eval (evA T) he parts.toList
    obtain ⟨u, h1, h2⟩ := vbuild_sound hd hv' (ps := parts.map fun p => (p.1, a.eval p.2)) (by simpa using hp)
    exact Stp.val h h1 h2
  | buildSlice t len parts =>
    obtain ⟨d, hd, hv⟩ := Option.bind_eq_some_iff.1 hv
    obtain ⟨r, hr, hv⟩ := Option.map_eq_some_iff.1 hv
    simp only [Prod.mk.injEq] at hv; obtain ⟨rfl, rfl, rfl⟩ := hv
    have hp := partsR_map a.eval (evA T) he parts.toList
    have hp' : PartsR γ S w (parts.map fun p => (p.1, a.eval p.2)).toList (parts.toList.map fun p => (p.1, evA T p.2)) := by simpa using hp
    have key := vbuildSlice_sound h hn hd (v := r.1) (e := r.2.1) (es := r.2.2) hr hp'
    have e1 : execOp a.eval ⟨dst, .buildSlice t len parts, ty, pos, after, guard⟩ = (do pure (.value (← Instr.buildSlice t len (parts.map fun p => (p.1, a.eval p.2)))) : Sem Go.Next) := rfl
    rw [e1]
    exact key
  | load t x =>
    obtain ⟨d, hd, hv⟩ := Option.bind_eq_some_iff.1 hv
    obtain ⟨r, hr, hv⟩ := Option.map_eq_some_iff.1 hv
    simp only [Prod.mk.injEq] at hv; obtain ⟨rfl, rfl, rfl⟩ := hv
    obtain ⟨u, h1, h2⟩ := vload_sound hd (v := r.1) (F := r.2) hr h.obj (he x)
    exact Stp.val h h1 h2
  | store t x y =>
    simp only [aop] at hv
    unfold vstore at hv
    split at hv
    · rename_i id off z d hx hy hd
      split at hv
      · rename_i cells hH
        split at hv
        · rename_i hc
          simp only [Option.some.injEq, Prod.mk.injEq] at hv; obtain ⟨rfl, rfl, rfl⟩ := hv
          have h1 := he x; rw [hx] at h1
          have h2 := he y; rw [hy] at h2
          obtain ⟨u, w', γ', S', r1, r2, r3, r4, r5, r6⟩ := store_box h hH hd h1 h2 hc.1 hc.2
          exact ⟨u, w', γ', S', r1, r2.less (fun x hx => hx.1), r3, r4, r5, r6⟩
        · cases hv
      · cases hv
    · cases hv
  | nilCheck x =>
    obtain ⟨v', hv', hv⟩ := Option.map_eq_some_iff.1 hv
    simp only [Prod.mk.injEq] at hv; obtain ⟨rfl, rfl, rfl⟩ := hv
    obtain ⟨h1, ad, h2⟩ := vnil_sound hv' (he x)
    exact Stp.same h (u := .pointer (some ad)) (by simp [execOp, h2]) (by rw [← h2]; exact h1)
  | binOp op t x y yt =>
    obtain ⟨v', hv', hv⟩ := Option.map_eq_some_iff.1 hv
    simp only [Prod.mk.injEq] at hv; obtain ⟨rfl, rfl, rfl⟩ := hv
    obtain ⟨u, h1, h2⟩ := vbin_sound hv' x y (he x) (he y)
    exact Stp.val h h1 h2
  | unOp op t x =>
    obtain ⟨v', hv', hv⟩ := Option.map_eq_some_iff.1 hv
    simp only [Prod.mk.injEq] at hv; obtain ⟨rfl, rfl, rfl⟩ := hv
    obtain ⟨u, h1, h2⟩ := vun_sound (P := P) hv' (he x)
    exact Stp.val h h1 h2
  | convert src dst' x =>
    obtain ⟨v', hv', hv⟩ := Option.map_eq_some_iff.1 hv
    simp only [Prod.mk.injEq] at hv; obtain ⟨rfl, rfl, rfl⟩ := hv
    obtain ⟨u, h1, h2⟩ := vconv_sound hv' (he x)
    exact Stp.val h h1 h2
  | makeFunc fn first caps =>
    simp only [aop] at hv
    split at hv
    · rename_i l1 l2 h1 h2
      simp only [Option.some.injEq, Prod.mk.injEq] at hv; obtain ⟨rfl, rfl, rfl⟩ := hv
      exact Stp.same h (u := .func fn (first.map a.eval) (caps.map a.eval)) rfl ⟨_, _, rfl, caps_rep he h1, caps_rep he h2⟩
    · cases hv
  | slice t x lo hi mx =>
    obtain ⟨d, hd, hv⟩ := Option.bind_eq_some_iff.1 hv
    obtain ⟨v', hv', hv⟩ := Option.map_eq_some_iff.1 hv
    simp only [Prod.mk.injEq] at hv; obtain ⟨rfl, rfl, rfl⟩ := hv
    have q1 := oav_some he lo; have q2 := oav_some he hi; have q3 := oav_some he mx
    obtain ⟨u, h1, h2⟩ := vslice_sound hd hv' (he x) q1.1 q1.2 q2.1 q2.2 q3.1 q3.2
    exact Stp.val h h1 h2
  | fieldAddr t x f =>
    obtain ⟨d, hd, hv⟩ := Option.bind_eq_some_iff.1 hv
    obtain ⟨v', hv', hv⟩ := Option.map_eq_some_iff.1 hv
    simp only [Prod.mk.injEq] at hv; obtain ⟨rfl, rfl, rfl⟩ := hv
    obtain ⟨u, h1, h2⟩ := vfieldAddr_sound hd hv' (he x)
    exact Stp.val h h1 h2
  | field t x f =>
    obtain ⟨d, hd, hv⟩ := Option.bind_eq_some_iff.1 hv
    obtain ⟨v', hv', hv⟩ := Option.map_eq_some_iff.1 hv
    simp only [Prod.mk.injEq] at hv; obtain ⟨rfl, rfl, rfl⟩ := hv
    obtain ⟨u, h1, h2⟩ := vfield_sound hd hv' (he x)
    exact Stp.val h h1 h2
  | indexAddr t x i =>
    obtain ⟨d, hd, hv⟩ := Option.bind_eq_some_iff.1 hv
    obtain ⟨n, hni, hv⟩ := Option.bind_eq_some_iff.1 hv
    obtain ⟨k, hk⟩ := asInt_inv (he i) hni
    have := idx_sound h (nm := nm) hd hv (he x) k
    rw [← hk] at this
    exact this
  | index t x i =>
    obtain ⟨d, hd, hv⟩ := Option.bind_eq_some_iff.1 hv
    obtain ⟨n, hni, hv⟩ := Option.bind_eq_some_iff.1 hv
    obtain ⟨v', hv', hv⟩ := Option.map_eq_some_iff.1 hv
    simp only [Prod.mk.injEq] at hv; obtain ⟨rfl, rfl, rfl⟩ := hv
    obtain ⟨k, hk⟩ := asInt_inv (he i) hni
    obtain ⟨u, h1, h2⟩ := vindex_sound hd hv' (he x) k
    rw [← hk] at h1
    exact Stp.val h h1 h2
  | extract x i =>
    obtain ⟨v', hv', hv⟩ := Option.map_eq_some_iff.1 hv
    simp only [Prod.mk.injEq] at hv; obtain ⟨rfl, rfl, rfl⟩ := hv
    obtain ⟨u, h1, h2⟩ := vext_sound (P := P) hv' (he x)
    exact Stp.val h h1 h2
  | call c =>
    obtain ⟨callee, args, ats⟩ := c
    cases callee with
    | builtin b =>
      have := builtin_sound h hn (P := P) (ts := ats) hv ty (args.map fun | .const _ => true | _ => false) (args_rep he args)
      rw [Go.BigFrame.execOp_builtin]
      exact this
    | value f => cases hv
    | invoke r m => cases hv
  | _ => cases hv
end
end Go.Proofs.Ythifckknijdgfaa.am
