/-
  A machine of values: any operation but a call of a function. No program is named here.
-/
import Derived.Test.YthifckknijdgfaaAm8
import Derived.BigFrame
namespace Go.Proofs.Ythifckknijdgfaa.am
open Go.ChangeShapes Go.WideShapes Go.ChangeAt Go.RowKit
set_option linter.unusedVariables false
set_option linter.unusedSimpArgs false

def vun (op : UnOp) (x : AV) : Option AV :=
  match op, x with
  | .not, .v (.c (.pv (.lit (.bool b)))) => some (.v (.c (.pv (.lit (.bool (!b))))))
  | .not, .v (.c .flag) => some (.v (.c .flag))
  | .neg, .v (.c (.pv (.lit (.int k n)))) => some (.v (.c (.pv (.lit (.int k (k.wrap (0 - n)))))))
  | _, _ => none
def vconv (P : Program) (src dst : TypeId) (x : AV) : Option AV :=
  match td P src, td P dst, x with
  | some _, some d, .v (.c (.pv (.lit (.int _ n)))) => (match d.tag with | .int k => some (.v (.c (.pv (.lit (.int k (k.wrap n)))))) | _ => none)
  | some s, some d, .v (.c (.pv (.lit (.string b)))) => (match s.tag, d.tag with | .string, .string => some (.v (.c (.pv (.lit (.string b))))) | _, _ => none)
  | _, _, _ => none
def capOf : AV → Option Cap
  | .v (.c (.ptr id off)) => some (.ptr id off)
  | .v (.c (.pv p)) => some (.pv p)
  | .v (.c (.row _ es l)) => some (.pv (.sl es l))
  | .v (.c (.cut es l)) => some (.pv (.sl es l))
  | _ => none
def vnil : AV → Option AV
  | .v (.c (.ptr id off)) => some (.v (.c (.ptr id off)))
  | .rp c o => some (.rp c o)
  | .ep id es i o => some (.ep id es i o)
  | _ => none
def vext (x : AV) (i : Nat) : Option AV :=
  match x with
  | .tup l => (l[i]?).map .v
  | _ => none
def vmin (b : Bool) : List AV → Option AV
  | [.v (.c (.pv (.lit (.int k x)))), .v (.c (.pv (.lit (.int _ y))))] => some (.v (.c (.pv (.lit (.int k (if b = true then (if y < x then y else x) else (if x < y then y else x)))))))
  | _ => none
def vstore (P : Program) (t : TypeId) (a x : AV) (H : Nat → Option AO) : Option (AV × List Nat × List (Nat × Option AO)) :=
  match a, x, td P t with
  | .v (.c (.ptr id off)), .v x, some d =>
    match H id with
    | some (.box cells) => if (cellsT x).length = d.sz ∧ off + d.sz ≤ cells.length then some (.top, [id], [(id, some (.box (setSeg cells off (cellsT x))))]) else none
    | _ => none
  | .ep id es i off, .v x, some d =>
    match H id with
    | some (.arr e es' l) =>
      match (if es = es' then l[i]? else none), pureT x with
      | some el, some ps => if ps.length = d.sz ∧ off + d.sz ≤ el.length then some (.top, [id], [(id, some (.arr e es' (l.set i (setSeg el off ps))))]) else none
      | _, _ => none
    | _ => none
  | _, _, _ => none
def vidx (P : Program) (d : TD) (x : AV) (n : Int) (H : Nat → Option AO) : Option (AV × List Nat × List (Nat × Option AO)) :=
  match x with
  | .v (.c (.arr id es m)) =>
    match H id with
    | some (.arr _ es' l) => if es' = es ∧ m = l.length then (vindexAddr P d x n).map fun v => (v, [id], []) else none
    | _ => none
  | _ => (vindexAddr P d x n).map fun v => (v, [], [])
def vbuiltin (P : Program) (b : Builtin) (ts : List TypeId) (xs : List AV) (H : Nat → Option AO) (nm : Nat) : Option (AV × List Nat × List (Nat × Option AO)) :=
  match b, ts, xs with
  | .len, [t], [x] => (td P t).bind fun d => (vlen d x).map fun v => (v, [], [])
  | .append, [t, t'], [x, y] => if t = t' then (td P t).bind fun d => vappend P d x y H nm else none
  | .min, _, xs => (vmin true xs).map fun v => (v, [], [])
  | .max, _, xs => (vmin false xs).map fun v => (v, [], [])
  | _, _, _ => none
def oav (e : Operand → AV) : Option Operand → Option AV
  | some x => some (e x)
  | none => none
/-- An operation: what it gives, which names it looks at, what it writes. -/
def aop (P : Program) (op : Op) (e : Operand → AV) (H : Nat → Option AO) (nm : Nat) : Option (AV × List Nat × List (Nat × Option AO)) :=
  match op with
  | .move x => some (e x, [], [])
  | .assign x => some (e x, [], [])
  | .pick c a b => match e c with
    | .v (.c (.pv (.lit (.bool t)))) => some (if t = true then e a else e b, [], [])
    | _ => none
  | .alloc t => (td P t).map fun d => (.v (.c (.ptr nm 0)), [], [(nm, some (.box (d.zero.map .pv)))])
  | .box _ x => match e x with
    | .v x => some (.v (.c (.ptr nm 0)), [], [(nm, some (.box (cellsT x)))])
    | _ => none
  | .build t parts => (td P t).bind fun d => (vbuild d (parts.toList.map fun p => (p.1, e p.2))).map fun v => (v, [], [])
  | .buildSlice t len parts => (td P t).bind fun d => (vbuildSlice P d len (parts.toList.map fun p => (p.1, e p.2)) nm).map fun r => (r.1, [], [(nm, some (.row r.2.1 r.2.2))])
  | .load t a => (td P t).bind fun d => (vload d (e a) H).map fun r => (r.1, r.2, [])
  | .store t a x => vstore P t (e a) (e x) H
  | .nilCheck x => (vnil (e x)).map fun v => (v, [], [])
  | .binOp op t x y _ => (vbin P op t (e x) (e y)).map fun v => (v, [], [])
  | .unOp op _ x => (vun op (e x)).map fun v => (v, [], [])
  | .convert src dst x => (vconv P src dst (e x)).map fun v => (v, [], [])
  | .makeFunc fn first caps => match first.toList.mapM fun x => capOf (e x), caps.toList.mapM fun x => capOf (e x) with
    | some a, some b => some (.v (.c (.fn fn a b)), [], [])
    | _, _ => none
  | .slice t x lo hi mx => (td P t).bind fun d => (vslice P d (e x) (oav e lo) (oav e hi) (oav e mx)).map fun v => (v, [], [])
  | .fieldAddr t x f => (td P t).bind fun d => (vfieldAddr d (e x) f).map fun v => (v, [], [])
  | .field t x f => (td P t).bind fun d => (vfield d (e x) f).map fun v => (v, [], [])
  | .indexAddr t x i => (td P t).bind fun d => (asInt? (e i)).bind fun n => vidx P d (e x) n H
  | .index t x i => (td P t).bind fun d => (asInt? (e i)).bind fun n => (vindex d (e x) n).map fun v => (v, [], [])
  | .extract x i => (vext (e x) i).map fun v => (v, [], [])
  | .call c => match c.callee with
    | .builtin b => vbuiltin P b c.argTypes.toList (c.args.toList.map e) H nm
    | _ => none
  | _ => none

section
variable {X : Ctx} {H : Nat → Option AO} {U : Nat → Prop} {γ : Nat → G} {S : CS} {w : World} {P : Program}
theorem Mem.less (h : Mem X H U γ S w) {U' : Nat → Prop} (hU : ∀ x, U' x → U x) : Mem X H U' γ S w := { h with un := fun x hx => h.un x (hU x hx) }
/-- Nothing was turned. -/
theorem Stp.same (h : Mem X H U γ S w) {nm : Nat} {r : Result Go.Next} {u : Value} {v : AV} (hr : r = .ok (.value u) w) (hv : RepV γ S w u v) : Stp X H (fun x => U x ∧ x ≠ nm) γ S w r v :=
  ⟨u, w, γ, S, .inl hr, h.less (fun x hx => hx.1), GOn.refl _, fun _ _ h => h, fun _ _ _ => rfl, hv⟩
theorem Stp.val (h : Mem X H U γ S w) {nm : Nat} {s : Sem Value} {u : Value} {v : AV} (hr : s.run P w = .ok u w) (hv : RepV γ S w u v) : Stp X H (fun x => U x ∧ x ≠ nm) γ S w ((do pure (.value (← s)) : Sem Go.Next).run P w) v :=
  Stp.same h (u := u) (by rw [Sem.run_bind, hr]; rfl) hv
theorem caps_rep {f : Operand → Value} {g : Operand → AV} (h : ∀ x, RepV γ S w (f x) (g x)) {xs : Array Operand} {l : List Cap} (hl : (xs.toList.mapM fun x => capOf (g x)) = some l) : RepCaps γ S w (xs.map f).toList l := by
  obtain ⟨h1, h2⟩ := mapM_at hl
  refine ⟨by simpa using h1, fun i c hi => ?_⟩
  obtain ⟨x, k1, k2⟩ := h2 i c hi
  refine ⟨f x, ?_, ?_⟩
  · have : xs[i]? = some x := by simpa using k1
    simp [this]
  · have hx := h x
    unfold capOf at k2
    split at k2
    · rename_i he; rw [he] at hx; cases k2; exact hx
    · rename_i he; rw [he] at hx; cases k2; exact hx
    · rename_i he; rw [he] at hx; cases k2; exact hx.1
    · rename_i he; rw [he] at hx; cases k2; exact hx.1
    · cases k2
theorem oav_some {e : Operand → AV} {f : Operand → Value} (h : ∀ x, RepV γ S w (f x) (e x)) (o : Option Operand) : (∀ v, oav e o = some v → ∃ u, o.map f = some u ∧ RepV γ S w u v) ∧ (oav e o = none → o.map f = none) := by
  cases o with
  | none => exact ⟨fun v hv => (by cases hv), fun _ => rfl⟩
  | some x => exact ⟨fun v hv => (by cases hv; exact ⟨_, rfl, h x⟩), fun hv => (by cases hv)⟩
theorem vun_sound {op : UnOp} {x v : AV} (h : vun op x = some v) {a : Value} (hx : RepV γ S w a x) : ∃ u, (Op.unary op a).run P w = .ok u w ∧ RepV γ S w u v := by
  unfold vun at h
  split at h
  · cases h; obtain ⟨rfl, _⟩ := lit_inv hx; exact ⟨_, by simp [Op.unary], lit_rep rfl⟩
  · cases h; obtain ⟨b, rfl⟩ := hx; exact ⟨.bool (!b), by simp [Op.unary], ⟨_, rfl⟩⟩
  · cases h; obtain ⟨rfl, _⟩ := lit_inv hx; exact ⟨_, by simp [Op.unary, Op.intArith], lit_rep rfl⟩
  · cases h
theorem vconv_sound {src dst : TypeId} {x v : AV} (h : vconv P src dst x = some v) {a : Value} (hx : RepV γ S w a x) : ∃ u, (convert src dst a).run P w = .ok u w ∧ RepV γ S w u v := by
  unfold vconv at h
  split at h
  · rename_i d1 d2 k n h1 h2
    obtain ⟨_, _, _, T1⟩ := td_ok h1
    obtain ⟨_, _, _, T2⟩ := td_ok h2
    split at h
    · rename_i k' htag
      cases h
      obtain ⟨rfl, _⟩ := lit_inv hx
      exact ⟨_, by simp [convert, run_underlying T1.und, run_underlying (T2.uint htag), Conv.intToInt], lit_rep rfl⟩
    · cases h
  · rename_i d1 d2 b h1 h2
    obtain ⟨_, _, _, T1⟩ := td_ok h1
    obtain ⟨_, _, _, T2⟩ := td_ok h2
    split at h
    · rename_i htag1 htag2
      cases h
      obtain ⟨rfl, _⟩ := lit_inv hx
      exact ⟨_, by simp [convert, run_underlying (T1.ustring htag1), run_underlying (T2.ustring htag2)], lit_rep rfl⟩
    · cases h
  · cases h
theorem vnil_sound {x v : AV} (h : vnil x = some v) {a : Value} (hx : RepV γ S w a x) : RepV γ S w a v ∧ ∃ ad, a = .pointer (some ad) := by
  unfold vnil at h
  split at h
  · cases h; obtain ⟨b, h1, rfl⟩ := hx; exact ⟨⟨b, h1, rfl⟩, _, rfl⟩
  · cases h; obtain ⟨b, o, rfl, h1⟩ := hx; exact ⟨⟨b, o, rfl, h1⟩, _, rfl⟩
  · cases h; obtain ⟨b, rfl, h1⟩ := hx; exact ⟨⟨b, rfl, h1⟩, _, rfl⟩
  · cases h
theorem vext_sound {x v : AV} {i : Nat} (h : vext x i = some v) {a : Value} (hx : RepV γ S w a x) : ∃ u, (Instr.extract a i).run P w = .ok u w ∧ RepV γ S w u v := by
  unfold vext at h
  split at h
  · obtain ⟨t, ht, rfl⟩ := Option.map_eq_some_iff.1 h
    obtain ⟨cs, rfl, h1⟩ := hx
    obtain ⟨u, k1, k2⟩ := h1.2 i t ht
    have k1' : cs[i]? = some u := by simpa using k1
    exact ⟨u, by simp [Instr.extract, k1'], k2⟩
  · cases h
theorem vmin_sound {b : Bool} {xs : List AV} {v : AV} (h : vmin b xs = some v) {vs : Array Value} (hx : vs.size = xs.length ∧ ∀ (i : Nat) x, xs[i]? = some x → ∃ u, vs[i]? = some u ∧ RepV γ S w u x) (ts : Array TypeId) (ty : TypeId) :
    ∃ u, ((if b = true then Builtin.min_ ts ty vs else Builtin.max_ ts ty vs)).run P w = .ok u w ∧ RepV γ S w u v := by
  unfold vmin at h
  split at h
  · rename_i k x k' y
    cases h
    obtain ⟨u0, h0, r0⟩ := hx.2 0 _ rfl
    obtain ⟨u1, h1, r1⟩ := hx.2 1 _ rfl
    obtain ⟨rfl, _⟩ := lit_inv r0
    obtain ⟨rfl, _⟩ := lit_inv r1
    have hvs : vs = #[.int k x, .int k' y] := by
      apply Array.ext'
      apply List.ext_getElem?
      intro i
      have h0' : vs.toList[0]? = some (.int k x) := by simpa using h0
      have h1' : vs.toList[1]? = some (.int k' y) := by simpa using h1
      match i with
      | 0 => rw [h0']; rfl
      | 1 => rw [h1']; rfl
      | i + 2 =>
        have : vs.toList.length = 2 := by simpa using hx.1
        rw [List.getElem?_eq_none (by omega)]; rfl
    subst hvs
    cases b <;> simp only [Bool.false_eq_true, if_false, if_true]
    · exact ⟨.int k (if x < y then y else x), by simp [Builtin.max_, Builtin.max2], lit_rep rfl⟩
    · exact ⟨.int k (if y < x then y else x), by simp [Builtin.min_, Builtin.min2], lit_rep rfl⟩
  · cases h

theorem asInt_k {x : AV} {n : Int} (h : asInt? x = some n) {a : Value} (ha : RepV γ S w a x) : ∃ k, a = .int k n := asInt_inv ha h
theorem args_rep {f : Operand → Value} {g : Operand → AV} (h : ∀ x, RepV γ S w (f x) (g x)) (xs : Array Operand) : (xs.map f).size = (xs.toList.map g).length ∧ ∀ (i : Nat) x, (xs.toList.map g)[i]? = some x → ∃ u, (xs.map f)[i]? = some u ∧ RepV γ S w u x := by
  refine ⟨by simp, fun i x hi => ?_⟩
  rw [List.getElem?_map] at hi
  obtain ⟨y, hy, rfl⟩ := Option.map_eq_some_iff.1 hi
  refine ⟨f y, ?_, h y⟩
  have : xs[i]? = some y := by simpa using hy
  simp [this]
theorem args_two {vs : Array Value} {x y : AV} (h : vs.size = [x, y].length ∧ ∀ (i : Nat) z, [x, y][i]? = some z → ∃ u, vs[i]? = some u ∧ RepV γ S w u z) : ∃ a b, vs = #[a, b] ∧ RepV γ S w a x ∧ RepV γ S w b y := by
  obtain ⟨u0, h0, r0⟩ := h.2 0 _ rfl
  obtain ⟨u1, h1, r1⟩ := h.2 1 _ rfl
  refine ⟨u0, u1, ?_, r0, r1⟩
  apply Array.ext'
  apply List.ext_getElem?
  intro i
  match i with
  | 0 => simpa using h0
  | 1 => simpa using h1
  | i + 2 =>
    have : vs.toList.length = 2 := by simpa using h.1
    rw [List.getElem?_eq_none (by omega)]; rfl
theorem args_one {vs : Array Value} {x : AV} (h : vs.size = [x].length ∧ ∀ (i : Nat) z, [x][i]? = some z → ∃ u, vs[i]? = some u ∧ RepV γ S w u z) : ∃ a, vs = #[a] ∧ RepV γ S w a x := by
  obtain ⟨u0, h0, r0⟩ := h.2 0 _ rfl
  refine ⟨u0, ?_, r0⟩
  apply Array.ext'
  apply List.ext_getElem?
  intro i
  match i with
  | 0 => simpa using h0
  | i + 1 =>
    have : vs.toList.length = 1 := by simpa using h.1
    rw [List.getElem?_eq_none (by omega)]; rfl
theorem builtin_sound (h : Mem X H U γ S w) {nm : Nat} (hn : U nm) {b : Builtin} {ts : Array TypeId} {xs : List AV} {v : AV} {F : List Nat} {W : List (Nat × Option AO)} (hv : vbuiltin P b ts.toList xs H nm = some (v, F, W)) (ty : TypeId) (cs : Array Bool) {vs : Array Value}
    (hx : vs.size = xs.length ∧ ∀ (i : Nat) x, xs[i]? = some x → ∃ u, vs[i]? = some u ∧ RepV γ S w u x) :
    Stp X (W.foldl (fun H p => upd H p.1 p.2) H) (fun x => U x ∧ x ≠ nm) γ S w ((builtin b ts ty cs vs).run P w) v := by
  unfold vbuiltin at hv
  split at hv
  · rename_i t x hts
    obtain ⟨d, hd, hv⟩ := Option.bind_eq_some_iff.1 hv
    obtain ⟨v', hv', hv⟩ := Option.map_eq_some_iff.1 hv
    simp only [Prod.mk.injEq] at hv; obtain ⟨rfl, rfl, rfl⟩ := hv
    obtain ⟨a, rfl, ha⟩ := args_one hx
    obtain rfl : ts = #[t] := by apply Array.ext'; rw [hts]
    obtain ⟨u, h1, h2⟩ := vlen_sound hd hv' ty ha
    exact Stp.val h h1 h2
  · rename_i t t' x y hts
    split at hv
    · rename_i htt
      subst htt
      obtain ⟨d, hd, hv⟩ := Option.bind_eq_some_iff.1 hv
      obtain ⟨a, b, rfl, ha, hb⟩ := args_two hx
      obtain rfl : ts = #[t, t] := by apply Array.ext'; rw [hts]
      exact vappend_sound h hn hd hv ty ha hb
    · cases hv
  · obtain ⟨v', hv', hv⟩ := Option.map_eq_some_iff.1 hv
    simp only [Prod.mk.injEq] at hv; obtain ⟨rfl, rfl, rfl⟩ := hv
    obtain ⟨u, h1, h2⟩ := vmin_sound (P := P) hv' hx ts ty
    exact Stp.val h h1 h2
  · obtain ⟨v', hv', hv⟩ := Option.map_eq_some_iff.1 hv
    simp only [Prod.mk.injEq] at hv; obtain ⟨rfl, rfl, rfl⟩ := hv
    obtain ⟨u, h1, h2⟩ := vmin_sound (P := P) hv' hx ts ty
    exact Stp.val h h1 h2
  · cases hv
theorem idx_sound (h : Mem X H U γ S w) {nm : Nat} {t : TypeId} {d : TD} (hd : td P t = some d) {x v : AV} {n : Int} {F : List Nat} {W : List (Nat × Option AO)} (hv : vidx P d x n H = some (v, F, W)) {a : Value} (ha : RepV γ S w a x) (k : IntKind) :
    Stp X (W.foldl (fun H p => upd H p.1 p.2) H) (fun x => U x ∧ x ≠ nm) γ S w ((do pure (.value (← Instr.indexAt t a (.int k n))) : Sem Go.Next).run P w) v := by
  unfold vidx at hv
  split at hv
  · rename_i id es m
    split at hv
    · rename_i e' es' l hH
      split at hv
      · rename_i hm
        obtain ⟨rfl, rfl⟩ := hm
        obtain ⟨v', hv', hv⟩ := Option.map_eq_some_iff.1 hv
        simp only [Prod.mk.injEq] at hv; obtain ⟨rfl, rfl, rfl⟩ := hv
        obtain ⟨u, h1, h2⟩ := vindexAddr_sound hd hv' h.obj (fun id' es2 m' he' => by cases he'; exact ⟨e', l, hH, rfl⟩) ha k
        exact Stp.val h h1 h2
      · cases hv
    · cases hv
  · rename_i hna
    obtain ⟨v', hv', hv⟩ := Option.map_eq_some_iff.1 hv
    simp only [Prod.mk.injEq] at hv; obtain ⟨rfl, rfl, rfl⟩ := hv
    obtain ⟨u, h1, h2⟩ := vindexAddr_sound hd hv' h.obj (fun id es m he' => absurd he' (hna _ _ _)) ha k
    exact Stp.val h h1 h2

set_option maxHeartbeats 2000000 in
theorem setSeg_get {α : Type} {l m : List α} {o k : Nat} (h : o + m.length ≤ l.length) : (setSeg l o m)[k]? = if k < o then l[k]? else if k < o + m.length then m[k - o]? else l[k]? := by
  unfold setSeg
  by_cases h1 : k < o
  · rw [if_pos h1, List.append_assoc, List.getElem?_append_left (by rw [List.length_take]; omega), List.getElem?_take, if_pos h1]
  · rw [if_neg h1]
    by_cases h2 : k < o + m.length
    · rw [if_pos h2, List.append_assoc, List.getElem?_append_right (by rw [List.length_take]; omega), List.length_take, Nat.min_eq_left (by omega), List.getElem?_append_left (by omega)]
    · rw [if_neg h2, List.append_assoc, List.getElem?_append_right (by rw [List.length_take]; omega), List.length_take, Nat.min_eq_left (by omega), List.getElem?_append_right (by omega), List.getElem?_drop]
      congr 1; omega
theorem setSeg_len {α : Type} {l m : List α} {o : Nat} (h : o + m.length ≤ l.length) : (setSeg l o m).length = l.length := by
  unfold setSeg
  simp only [List.length_append, List.length_take, List.length_drop]
  omega
theorem store_arr (h : Mem X H U γ S w) {id es i off : Nat} {e : TypeId} {l : List (List PV)} (hH : H id = some (.arr e es l)) {t : TypeId} {d : TD} (hd : td P t = some d) {a v : Value} (ha : RepV γ S w a (.ep id es i off)) {x : AT} (hv : RepT γ S w v x) {ps : List PV} (hp : pureT x = some ps) (hsz : ps.length = d.sz) {el : List PV} (hel : l[i]? = some el) (hfit : off + d.sz ≤ el.length) :
    Stp X (upd H id (some (.arr e es (l.set i (setSeg el off ps))))) U γ S w ((do Instr.storeAt t a v; pure .skip : Sem Go.Next).run P w) .top := by
  obtain ⟨i0, ud, z, T⟩ := td_ok hd
  obtain ⟨v0, xs, g1, g2, g3, g5, g4⟩ := h.obj _ _ hH
  obtain ⟨b, rfl, hx⟩ := ha
  rcases hx with hx | ⟨n, c, hx⟩
  · rw [g1] at hx; cases hx
  rw [g1] at hx; cases hx
  obtain ⟨hxl, hown⟩ := g2
  rcases hown with ⟨hn, _⟩ | ⟨g, cap, cur, hve, _, hheap, hcl, hcm, hcs, htk⟩
  · cases hn
  cases hve
  have hpr := pureT_rep hv hp
  have hil := (List.getElem?_eq_some_iff.1 hel).1
  have hes := g5 el (List.mem_of_getElem? hel)
  have hvl : v.cells.toList.length = d.sz := by rw [hpr.1, hsz]
  have hmul : i * es + es ≤ l.length * es := by rw [← Nat.succ_mul]; exact Nat.mul_le_mul_right es hil
  have hcap : l.length * es ≤ c * es := Nat.mul_le_mul_right es hcl
  have hst := run_storeCells_at P b (i * es + off) e v.cells.toList 0 cur w hheap (by rw [hvl, hcs]; omega) hpr.ones
  simp only [Nat.add_zero] at hst
  have hvs : v.cells.size = d.sz := by rw [← hvl]; simp
  have hbb : (γ id).bk = some b := by rw [g1]; rfl
  have hS : ∀ o, ¬ S b o := g4 b rfl
  have hoth : ∀ k, k ≠ b → (w.setRow b (setSeg cur.toList (i * es + off) v.cells.toList).toArray).heap[k]? = w.heap[k]? := fun k hk => setRow_other w b k _ hk
  have hw : ∀ b' k, S b' k → (w.setRow b (setSeg cur.toList (i * es + off) v.cells.toList).toArray).cell? ⟨b', k, none⟩ = w.cell? ⟨b', k, none⟩ := fun b' k hs => World.cell?_of_block (hoth b' (fun e => hS k (e ▸ hs)))
  have hsize : (w.setRow b (setSeg cur.toList (i * es + off) v.cells.toList).toArray).heap.size = w.heap.size := by simp [World.setRow]
  have hcurl : cur.toList.length = c * es := by simpa using hcs
  have hfitc : i * es + off + v.cells.toList.length ≤ cur.toList.length := by rw [hvl, hcurl]; omega
  have hxs : ∀ k, k < l.length * es → xs[k]? = cur.toList[k]? := fun k hk => by rw [← htk, List.getElem?_take, if_pos hk]
  refine ⟨undef, w.setRow b (setSeg cur.toList (i * es + off) v.cells.toList).toArray, γ, S, .inr ⟨?_, rfl⟩,
    h.turn (w' := w.setRow b (setSeg cur.toList (i * es + off) v.cells.toList).toArray) hbb rfl rfl rfl hsize hoth hS (.arr e es (l.set i (setSeg el off ps)))
      ⟨_, (setSeg cur.toList (i * es + off) v.cells.toList).take (l.length * es), g1, ⟨?_, .inr ⟨b, c, _, by rw [List.length_set], Nat.zero_le _, setRow_heap w b cur _ e _ hheap, by rw [List.length_set]; exact hcl, hcm, ?_, by rw [List.length_set]⟩⟩, ?_, ?_, g4⟩, GOn.refl _, fun _ _ h => h, hw, trivial⟩
  · simp only [Sem.run_bind, Instr.storeAt, Instr.sureAddr, Sem.run_pure, Result.andThen_ok, storeVar, T.sizeOf, hvs]
    simp [hst, setSeg]
  · rw [List.length_set, List.length_take, setSeg_len hfitc, hcurl]; exact Nat.min_eq_left hcap
  · rw [List.size_toArray, setSeg_len hfitc, hcurl]
  · intro i' e' j p h1 h2
    have hj : j < es := by
      rw [List.getElem?_set] at h1
      have := (List.getElem?_eq_some_iff.1 h2).1
      split at h1
      · cases h1; rwa [setSeg_len (by omega), hes] at this
      · rw [g5 e' (List.mem_of_getElem? h1)] at this; exact this
    have hi' : i' < l.length := by
      have := (List.getElem?_eq_some_iff.1 h1).1
      rwa [List.length_set] at this
    have hk : i' * es + j < l.length * es := by
      have : i' * es + es ≤ l.length * es := by rw [← Nat.succ_mul]; exact Nat.mul_le_mul_right es hi'
      omega
    rw [List.getElem?_take, if_pos hk, setSeg_get hfitc, hvl]
    by_cases hii : i' = i
    · subst hii
      rw [List.getElem?_set, if_pos rfl, if_pos hil] at h1
      cases h1
      rw [setSeg_get (by omega)] at h2
      by_cases c1 : j < off
      · rw [if_pos c1] at h2
        rw [if_pos (by omega), ← hxs _ hk]
        obtain ⟨u, k1, k2⟩ := g3 i' el j p hel h2
        exact ⟨u, k1, k2.mono (fun _ _ h => h) hw⟩
      · rw [if_neg c1] at h2
        rw [if_neg (by omega)]
        by_cases c2 : j < off + ps.length
        · rw [if_pos c2] at h2
          rw [if_pos (by omega)]
          obtain ⟨u, k1, k2⟩ := hpr.2 _ p h2
          refine ⟨u, ?_, k2.mono (fun _ _ h => h) hw⟩
          rw [show i' * es + j - (i' * es + off) = j - off by omega]; exact k1
        · rw [if_neg c2] at h2
          rw [if_neg (by omega), ← hxs _ hk]
          obtain ⟨u, k1, k2⟩ := g3 i' el j p hel h2
          exact ⟨u, k1, k2.mono (fun _ _ h => h) hw⟩
    · rw [List.getElem?_set, if_neg (fun e => hii e.symm)] at h1
      have hout : i' * es + j < i * es + off ∨ ¬ i' * es + j < i * es + off + d.sz := by
        rcases Nat.lt_or_ge i' i with hlt | hge
        · left
          have : i' * es + es ≤ i * es := by rw [← Nat.succ_mul]; exact Nat.mul_le_mul_right es hlt
          omega
        · right
          have hgt : i < i' := by omega
          have : i * es + es ≤ i' * es := by rw [← Nat.succ_mul]; exact Nat.mul_le_mul_right es hgt
          omega
      obtain ⟨u, k1, k2⟩ := g3 i' e' j p h1 h2
      refine ⟨u, ?_, k2.mono (fun _ _ h => h) hw⟩
      rw [hxs _ hk] at k1
      rcases hout with cc | cc
      · rw [if_pos cc]; exact k1
      · by_cases c1 : i' * es + j < i * es + off
        · rw [if_pos c1]; exact k1
        · rw [if_neg c1, if_neg cc]; exact k1
  · intro e' he'
    rcases List.mem_or_eq_of_mem_set he' with k | k
    · exact g5 e' k
    · rw [k, setSeg_len (by omega)]; exact hes
theorem aop_sound (h : Mem X H U γ S w) {nm : Nat} (hn : U nm) {a : Act} {T : Nat → AV} (ha : ∀ t, RepV γ S w (a.tmps.getD t undef) (T t)) (o : Oper) {v : AV} {F : List Nat} {W : List (Nat × Option AO)} (hv : aop P o.op (evA T) H nm = some (v, F, W)) :
    Stp X (W.foldl (fun H p => upd H p.1 p.2) H) (fun x => U x ∧ x ≠ nm) γ S w ((execOp a.eval o).run P w) v := by
  have he : ∀ x, RepV γ S w (a.eval x) (evA T x) := evA_rep ha
  obtain ⟨dst, op, ty, pos, after, guard⟩ := o
  dsimp only at hv
  cases op with
  | move x =>
    simp only [aop, Option.some.injEq, Prod.mk.injEq] at hv; obtain ⟨rfl, rfl, rfl⟩ := hv
    exact Stp.same h (u := a.eval x) rfl (he _)
  | assign x =>
    simp only [aop, Option.some.injEq, Prod.mk.injEq] at hv; obtain ⟨rfl, rfl, rfl⟩ := hv
    exact Stp.same h (u := a.eval x) rfl (he _)
  | pick c x y =>
    simp only [aop] at hv
    split at hv
    · rename_i t hc
      simp only [Option.some.injEq, Prod.mk.injEq] at hv; obtain ⟨rfl, rfl, rfl⟩ := hv
      have := he c; rw [hc] at this
      obtain ⟨hce, _⟩ := lit_inv this
      refine Stp.same h (u := if t = true then a.eval x else a.eval y) (by simp [execOp, hce, asBool]) ?_
      split
      · exact he x
      · exact he y
    · cases hv
  | alloc t =>
    obtain ⟨d, hd, hv⟩ := Option.map_eq_some_iff.1 hv
    simp only [Prod.mk.injEq] at hv; obtain ⟨rfl, rfl, rfl⟩ := hv
    exact alloc_sound h hn hd
  | box t x =>
    simp only [aop] at hv
    split at hv
    · rename_i y hy
      simp only [Option.some.injEq, Prod.mk.injEq] at hv; obtain ⟨rfl, rfl, rfl⟩ := hv
      have := he x; rw [hy] at this
      exact box_sound h hn t this pure
    · cases hv
  | build t parts =>
    obtain ⟨d, hd, hv⟩ := Option.bind_eq_some_iff.1 hv
    obtain ⟨v', hv', hv⟩ := Option.map_eq_some_iff.1 hv
    simp only [Prod.mk.injEq] at hv; obtain ⟨rfl, rfl, rfl⟩ := hv
    have hp := partsR_map a.eval (evA T) he parts.toList
    obtain ⟨u, h1, h2⟩ := vbuild_sound hd hv' (ps := parts.map fun p => (p.1, a.eval p.2)) (by simpa using hp)
    exact Stp.val h h1 h2
  | buildSlice t len parts =>
    obtain ⟨d, hd, hv⟩ := Option.bind_eq_some_iff.1 hv
    obtain ⟨r, hr, hv⟩ := Option.map_eq_some_iff.1 hv
    simp only [Prod.mk.injEq] at hv; obtain ⟨rfl, rfl, rfl⟩ := hv
    have hp := partsR_map a.eval (evA T) he parts.toList
    have hp' : PartsR γ S w (parts.map fun p => (p.1, a.eval p.2)).toList (parts.toList.map fun p => (p.1, evA T p.2)) := by simpa using hp
    have key := vbuildSlice_sound h hn hd (v := r.1) (e := r.2.1) (es := r.2.2) hr hp'
    have e1 : execOp a.eval ⟨dst, .buildSlice t len parts, ty, pos, after, guard⟩ = (do pure (.value (← Instr.buildSlice t len (parts.map fun p => (p.1, a.eval p.2)))) : Sem Go.Next) := rfl
    rw [e1]
    exact key
  | load t x =>
    obtain ⟨d, hd, hv⟩ := Option.bind_eq_some_iff.1 hv
    obtain ⟨r, hr, hv⟩ := Option.map_eq_some_iff.1 hv
    simp only [Prod.mk.injEq] at hv; obtain ⟨rfl, rfl, rfl⟩ := hv
    obtain ⟨u, h1, h2⟩ := vload_sound hd (v := r.1) (F := r.2) hr h.obj (he x)
    exact Stp.val h h1 h2
  | store t x y =>
    simp only [aop] at hv
    unfold vstore at hv
    split at hv
    · rename_i id off z d hx hy hd
      split at hv
      · rename_i cells hH
        split at hv
        · rename_i hc
          simp only [Option.some.injEq, Prod.mk.injEq] at hv; obtain ⟨rfl, rfl, rfl⟩ := hv
          have h1 := he x; rw [hx] at h1
          have h2 := he y; rw [hy] at h2
          obtain ⟨u, w', γ', S', r1, r2, r3, r4, r5, r6⟩ := store_box h hH hd h1 h2 hc.1 hc.2
          exact ⟨u, w', γ', S', r1, r2.less (fun x hx => hx.1), r3, r4, r5, r6⟩
        · cases hv
      · cases hv
    · rename_i id es i off z d hx hy hd
      split at hv
      · rename_i e es' l hH
        split at hv
        · rename_i el ps hel hp
          split at hv
          · rename_i hc
            simp only [Option.some.injEq, Prod.mk.injEq] at hv; obtain ⟨rfl, rfl, rfl⟩ := hv
            have h1 := he x; rw [hx] at h1
            have h2 := he y; rw [hy] at h2
            split at hel
            · rename_i hes
              subst hes
              obtain ⟨u, w', γ', S', r1, r2, r3, r4, r5, r6⟩ := store_arr h hH hd h1 h2 hp hc.1 hel hc.2
              exact ⟨u, w', γ', S', r1, r2.less (fun x hx => hx.1), r3, r4, r5, r6⟩
            · cases hel
          · cases hv
        · cases hv
      · cases hv
    · cases hv
  | nilCheck x =>
    obtain ⟨v', hv', hv⟩ := Option.map_eq_some_iff.1 hv
    simp only [Prod.mk.injEq] at hv; obtain ⟨rfl, rfl, rfl⟩ := hv
    obtain ⟨h1, ad, h2⟩ := vnil_sound hv' (he x)
    exact Stp.same h (u := .pointer (some ad)) (by simp [execOp, h2]) (by rw [← h2]; exact h1)
  | binOp op t x y yt =>
    obtain ⟨v', hv', hv⟩ := Option.map_eq_some_iff.1 hv
    simp only [Prod.mk.injEq] at hv; obtain ⟨rfl, rfl, rfl⟩ := hv
    obtain ⟨u, h1, h2⟩ := vbin_sound hv' x y (he x) (he y)
    exact Stp.val h h1 h2
  | unOp op t x =>
    obtain ⟨v', hv', hv⟩ := Option.map_eq_some_iff.1 hv
    simp only [Prod.mk.injEq] at hv; obtain ⟨rfl, rfl, rfl⟩ := hv
    obtain ⟨u, h1, h2⟩ := vun_sound (P := P) hv' (he x)
    exact Stp.val h h1 h2
  | convert src dst' x =>
    obtain ⟨v', hv', hv⟩ := Option.map_eq_some_iff.1 hv
    simp only [Prod.mk.injEq] at hv; obtain ⟨rfl, rfl, rfl⟩ := hv
    obtain ⟨u, h1, h2⟩ := vconv_sound hv' (he x)
    exact Stp.val h h1 h2
  | makeFunc fn first caps =>
    simp only [aop] at hv
    split at hv
    · rename_i l1 l2 h1 h2
      simp only [Option.some.injEq, Prod.mk.injEq] at hv; obtain ⟨rfl, rfl, rfl⟩ := hv
      exact Stp.same h (u := .func fn (first.map a.eval) (caps.map a.eval)) rfl ⟨_, _, rfl, caps_rep he h1, caps_rep he h2⟩
    · cases hv
  | slice t x lo hi mx =>
    obtain ⟨d, hd, hv⟩ := Option.bind_eq_some_iff.1 hv
    obtain ⟨v', hv', hv⟩ := Option.map_eq_some_iff.1 hv
    simp only [Prod.mk.injEq] at hv; obtain ⟨rfl, rfl, rfl⟩ := hv
    have q1 := oav_some he lo; have q2 := oav_some he hi; have q3 := oav_some he mx
    obtain ⟨u, h1, h2⟩ := vslice_sound hd hv' (he x) q1.1 q1.2 q2.1 q2.2 q3.1 q3.2
    exact Stp.val h h1 h2
  | fieldAddr t x f =>
    obtain ⟨d, hd, hv⟩ := Option.bind_eq_some_iff.1 hv
    obtain ⟨v', hv', hv⟩ := Option.map_eq_some_iff.1 hv
    simp only [Prod.mk.injEq] at hv; obtain ⟨rfl, rfl, rfl⟩ := hv
    obtain ⟨u, h1, h2⟩ := vfieldAddr_sound hd hv' (he x)
    exact Stp.val h h1 h2
  | field t x f =>
    obtain ⟨d, hd, hv⟩ := Option.bind_eq_some_iff.1 hv
    obtain ⟨v', hv', hv⟩ := Option.map_eq_some_iff.1 hv
    simp only [Prod.mk.injEq] at hv; obtain ⟨rfl, rfl, rfl⟩ := hv
    obtain ⟨u, h1, h2⟩ := vfield_sound hd hv' (he x)
    exact Stp.val h h1 h2
  | indexAddr t x i =>
    obtain ⟨d, hd, hv⟩ := Option.bind_eq_some_iff.1 hv
    obtain ⟨n, hni, hv⟩ := Option.bind_eq_some_iff.1 hv
    obtain ⟨k, hk⟩ := asInt_inv (he i) hni
    have := idx_sound h (nm := nm) hd hv (he x) k
    rw [← hk] at this
    exact this
  | index t x i =>
    obtain ⟨d, hd, hv⟩ := Option.bind_eq_some_iff.1 hv
    obtain ⟨n, hni, hv⟩ := Option.bind_eq_some_iff.1 hv
    obtain ⟨v', hv', hv⟩ := Option.map_eq_some_iff.1 hv
    simp only [Prod.mk.injEq] at hv; obtain ⟨rfl, rfl, rfl⟩ := hv
    obtain ⟨k, hk⟩ := asInt_inv (he i) hni
    obtain ⟨u, h1, h2⟩ := vindex_sound hd hv' (he x) k
    rw [← hk] at h1
    exact Stp.val h h1 h2
  | extract x i =>
    obtain ⟨v', hv', hv⟩ := Option.map_eq_some_iff.1 hv
    simp only [Prod.mk.injEq] at hv; obtain ⟨rfl, rfl, rfl⟩ := hv
    obtain ⟨u, h1, h2⟩ := vext_sound (P := P) hv' (he x)
    exact Stp.val h h1 h2
  | call c =>
    obtain ⟨callee, args, ats⟩ := c
    cases callee with
    | builtin b =>
      have := builtin_sound h hn (P := P) (ts := ats) hv ty (args.map fun | .const _ => true | _ => false) (args_rep he args)
      rw [Go.BigFrame.execOp_builtin]
      exact this
    | value f => cases hv
    | invoke r m => cases hv
  | _ => cases hv
end
end Go.Proofs.Ythifckknijdgfaa.am
