/-
  A machine of values: operators, slices, fields, elements: operations that turn nothing. No program is named here.
-/
import Derived.Test.YtjmjillfclfkgaaAm2
import Derived.Test.YtjmjillfclfkgaaTexts
namespace Go.Proofs.Ytjmjillfclfkgaa.am
open Go.ChangeShapes Go.WideShapes Go.ChangeAt Go.RowKit
set_option linter.unusedVariables false
set_option linter.unusedSimpArgs false

/-! Operators -/
def pint (op : BinOp) (k : IntKind) (a b : Int) : Option Value :=
  match op with
  | .add => some (.int k (k.wrap (a + b)))
  | .sub => some (.int k (k.wrap (a - b)))
  | .mul => some (.int k (k.wrap (a * b)))
  | .quo => if b = 0 then none else some (.int k (k.wrap (a.tdiv b)))
  | .rem => if b = 0 then none else some (.int k (a.tmod b))
  | .and => some (.int k (k.wrap (BitVec.ofInt k.bits a &&& BitVec.ofInt k.bits b).toNat))
  | .or => some (.int k (k.wrap (BitVec.ofInt k.bits a ||| BitVec.ofInt k.bits b).toNat))
  | .xor => some (.int k (k.wrap (BitVec.ofInt k.bits a ^^^ BitVec.ofInt k.bits b).toNat))
  | .andNot => some (.int k (k.wrap (BitVec.ofInt k.bits a &&& ~~~BitVec.ofInt k.bits b).toNat))
  | .eql => some (.bool (decide (a = b)))
  | .neq => some (.bool (!decide (a = b)))
  | .lss => some (.bool (decide (a < b)))
  | .leq => some (.bool (decide (a ≤ b)))
  | .gtr => some (.bool (decide (b < a)))
  | .geq => some (.bool (decide (b ≤ a)))
  | _ => none
def pstr (op : BinOp) (a b : ByteArray) : Option Value :=
  match op with
  | .add => if a.size + b.size ≤ 9223372036854775807 then some (.string (a ++ b)) else none
  | .eql => some (.bool (decide (a = b)))
  | .neq => some (.bool (!decide (a = b)))
  | .lss => some (.bool (Op.bytesLess a.toList b.toList))
  | .leq => some (.bool (Op.bytesLess a.toList b.toList || decide (a = b)))
  | .gtr => some (.bool (!(Op.bytesLess a.toList b.toList || decide (a = b))))
  | .geq => some (.bool (!Op.bytesLess a.toList b.toList))
  | _ => none
def pbin (op : BinOp) (x y : Value) : Option Value :=
  match x, y with
  | .int k a, .int k' b =>
    match op with
    | .shl => if b < 0 then none else some (.int k (k.wrap (a * 2 ^ min b.toNat k.bits)))
    | .shr => if b < 0 then none else some (.int k (a.fdiv (2 ^ min b.toNat k.bits)))
    | _ => if k = k' then pint op k a b else none
  | .string a, .string b => pstr op a b
  | _, _ => none
theorem pbin_plain {op : BinOp} {x y v : Value} (h : pbin op x y = some v) : plain v = true := by
  unfold pbin at h
  split at h
  · split at h
    · split at h <;> cases h; rfl
    · split at h <;> cases h; rfl
    · split at h
      · unfold pint at h
        split at h <;> first | (cases h; rfl) | (split at h <;> cases h; rfl) | cases h
      · cases h
  · unfold pstr at h
    split at h <;> first | (cases h; rfl) | (split at h <;> cases h; rfl) | cases h
  · cases h

def isEqOp : BinOp → Option Bool
  | .eql => some true
  | .neq => some false
  | _ => none
/-- Are two operands of a type the same? -/
def veq (tag : Tag) (x y : AV) : Option Bool :=
  match x, y with
  | .v (.c (.pv (.lit (.bool p)))), .v (.c (.pv (.lit (.bool q)))) => (match tag with | .bool => some (decide (p = q)) | _ => none)
  | .v (.c (.pv (.lit (.pointer none)))), .v (.c (.pv (.lit (.pointer none)))) => (match tag with | .pointer _ => some true | _ => none)
  | .v (.c (.ptr _ _)), .v (.c (.pv (.lit (.pointer none)))) => (match tag with | .pointer _ => some false | _ => none)
  | .v (.c (.pv (.lit .nilFunc))), .v (.c (.pv (.lit .nilFunc))) => (match tag with | .func => some true | _ => none)
  | .v (.c (.fn _ _ _)), .v (.c (.pv (.lit .nilFunc))) => (match tag with | .func => some false | _ => none)
  | .v (.c (.pv .nilS)), .v (.c (.pv .nilS)) => (match tag with | .slice _ => some true | _ => none)
  | .v (.c (.pv (.sl _ (_ :: _)))), .v (.c (.pv .nilS)) => (match tag with | .slice _ => some false | _ => none)
  | _, _ => none
/-- Is it not told whether two operands are the same? -/
def veqF (tag : Tag) (x y : AV) : Bool :=
  match x, y with
  | .v (.c (.pv (.sl _ []))), .v (.c (.pv .nilS)) => (match tag with | .slice _ => true | _ => false)
  | _, _ => false
/-- Any two operands. -/
def vbin (P : Program) (op : BinOp) (t : TypeId) (x y : AV) : Option AV :=
  match x, y with
  | .v (.c (.pv (.lit (.int k a)))), .v (.c (.pv (.lit (.int k' b)))) => (pbin op (.int k a) (.int k' b)).map fun v => .v (.c (.pv (.lit v)))
  | .v (.c (.pv (.lit (.string a)))), .v (.c (.pv (.lit (.string b)))) => (pstr op a b).map fun v => .v (.c (.pv (.lit v)))
  | _, _ =>
    match isEqOp op, td P t with
    | some s, some d => if veqF d.tag x y = true then some (.v (.c .flag)) else (veq d.tag x y).map fun e => .v (.c (.pv (.lit (.bool (e == s)))))
    | _, _ => none

section
variable {P : Program} {γ : Nat → G} {S : CS} {w : World}
theorem lit_rep {v : Value} (h : plain v = true) : RepV γ S w v (.v (.c (.pv (.lit v)))) := RepP.lit v h
theorem lit_inv {x v : Value} (h : RepV γ S w x (.v (.c (.pv (.lit v))))) : x = v ∧ plain v = true := by cases h; exact ⟨rfl, by assumption⟩
theorem nilS_inv {x : Value} (h : RepV γ S w x (.v (.c (.pv .nilS)))) : x = .slice none 0 0 := by cases h; rfl

theorem run_pint {op : BinOp} {k : IntKind} {a b : Int} {v : Value} (t : TypeId) (h : pint op k a b = some v) : (binOp op t (.int k a) (.int k b)).run P w = .ok v w := by
  cases op <;> simp only [pint, Option.some.injEq] at h <;> first
    | (cases h; done)
    | (subst h; simp [binOp, Op.intArith, Op.intCmp, Op.intBits, bne, BEq.beq]; done)
    | (split at h
       · cases h
       · rename_i hb
         cases h
         simp [binOp, Op.intDiv, hb])
theorem run_pstr {op : BinOp} {a b : ByteArray} {v : Value} (t : TypeId) (h : pstr op a b = some v) : (binOp op t (.string a) (.string b)).run P w = .ok v w := by
  have e : (a.toList == b.toList) = decide (a = b) := bs.text_eq a b
  cases op <;> simp only [pstr, Option.some.injEq] at h <;> first
    | (cases h; done)
    | (subst h; simp [binOp, Op.stringOp, e]; done)
    | (split at h
       · rename_i hb
         cases h
         have : ¬ (9223372036854775807 : Int) < (a.size : Int) + (b.size : Int) := by omega
         simp [binOp, Op.stringOp, this]
       · cases h)
theorem run_pbin {op : BinOp} {x y v : Value} (t : TypeId) (h : pbin op x y = some v) : (binOp op t x y).run P w = .ok v w := by
  unfold pbin at h
  split at h
  · split at h
    · split at h
      · cases h
      · rename_i hb; cases h; simp [binOp, Op.shift, hb]
    · split at h
      · cases h
      · rename_i hb; cases h; simp [binOp, Op.shift, hb]
    · split at h
      · rename_i hk; subst hk; exact run_pint t h
      · cases h
  · exact run_pstr t h
  · cases h
/-- Values other than numbers, texts, structs .. -/
def sole : Value → Bool
  | .bool _ | .pointer _ | .slice _ _ _ | .func _ _ _ | .nilFunc => true
  | _ => false
theorem run_eqop {op : BinOp} {s : Bool} (hs : isEqOp op = some s) {t : TypeId} {x y : Value} {e : Bool} (hx : sole x = true) (hy : sole y = true) (h : (Op.equal t x y).run P w = .ok e w) (ox oy : Operand) :
    (do eqGuard op t ox oy x y; binOp op t x y : Sem Value).run P w = .ok (.bool (e == s)) w := by
  have hg : eqGuard op t ox oy x y = pure () := by cases x <;> simp [sole] at hx <;> cases op <;> rfl
  rw [hg]
  cases op <;> simp only [isEqOp, Option.some.injEq, reduceCtorEq] at hs <;> subst hs
  · have : binOp .eql t x y = (do pure (.bool (← Op.equal t x y))) := by cases x <;> simp [sole] at hx <;> cases y <;> simp [sole] at hy <;> rfl
    simp [this, h]
  · have : binOp .neq t x y = (do pure (.bool (!(← Op.equal t x y)))) := by cases x <;> simp [sole] at hx <;> cases y <;> simp [sole] at hy <;> rfl
    simp [this, h]
theorem equal_eq (t : TypeId) (x y : Value) : Op.equal t x y = Op.equalIn (9999 + 1) t x y := rfl
theorem veq_sound {t : TypeId} {d : TD} (hd : td P t = some d) {x y : AV} {e : Bool} (h : veq d.tag x y = some e) {a b : Value} (hx : RepV γ S w a x) (hy : RepV γ S w b y) : (Op.equal t a b).run P w = .ok e w ∧ sole a = true ∧ sole b = true := by
  obtain ⟨i, ud, z, T⟩ := td_ok hd
  unfold veq at h
  rw [equal_eq]
  split at h
  · obtain ⟨rfl, _⟩ := lit_inv hx
    obtain ⟨rfl, _⟩ := lit_inv hy
    split at h
    · rename_i htag
      cases h
      exact ⟨by rw [Op.equalIn, Sem.run_bind, run_underlying (T.ubool htag)]; rfl, rfl, rfl⟩
    · cases h
  · obtain ⟨rfl, _⟩ := lit_inv hx
    obtain ⟨rfl, _⟩ := lit_inv hy
    split at h
    · rename_i htag
      cases h
      exact ⟨by rw [Op.equalIn, Sem.run_bind, run_underlying (T.upointer htag)]; rfl, rfl, rfl⟩
    · cases h
  · obtain ⟨b', hb', rfl⟩ := hx
    obtain ⟨rfl, _⟩ := lit_inv hy
    split at h
    · rename_i htag
      cases h
      exact ⟨by rw [Op.equalIn, Sem.run_bind, run_underlying (T.upointer htag)]; rfl, rfl, rfl⟩
    · cases h
  · obtain ⟨rfl, _⟩ := lit_inv hx
    obtain ⟨rfl, _⟩ := lit_inv hy
    split at h
    · rename_i htag
      cases h
      obtain ⟨_, _, _, hu⟩ := T.ufunc htag
      exact ⟨by rw [Op.equalIn, Sem.run_bind, run_underlying hu]; rfl, rfl, rfl⟩
    · cases h
  · obtain ⟨xs, ys, rfl, _⟩ := hx
    obtain ⟨rfl, _⟩ := lit_inv hy
    split at h
    · rename_i htag
      cases h
      obtain ⟨_, _, _, hu⟩ := T.ufunc htag
      exact ⟨by rw [Op.equalIn, Sem.run_bind, run_underlying hu]; rfl, rfl, rfl⟩
    · cases h
  · obtain rfl := nilS_inv hx
    obtain rfl := nilS_inv hy
    split at h
    · rename_i htag
      cases h
      exact ⟨by rw [Op.equalIn, Sem.run_bind, run_underlying (T.uslice htag)]; rfl, rfl, rfl⟩
    · cases h
  · obtain rfl := nilS_inv hy
    split at h
    · rename_i htag
      cases h
      cases hx
      exact ⟨by rw [Op.equalIn, Sem.run_bind, run_underlying (T.uslice htag)]; rfl, rfl, rfl⟩
    · cases h
  · cases h

theorem veqF_sound {t : TypeId} {d : TD} (hd : td P t = some d) {x y : AV} (h : veqF d.tag x y = true) {a b : Value} (hx : RepV γ S w a x) (hy : RepV γ S w b y) : ∃ e, (Op.equal t a b).run P w = .ok e w ∧ sole a = true ∧ sole b = true := by
  obtain ⟨i, ud, z, T⟩ := td_ok hd
  unfold veqF at h
  rw [equal_eq]
  split at h
  · obtain rfl := nilS_inv hy
    split at h
    · rename_i htag
      cases hx with
      | emp ad c es hm ha =>
        cases ad with
        | none =>
          obtain rfl := ha rfl
          exact ⟨true, by rw [Op.equalIn, Sem.run_bind, run_underlying (T.uslice htag)]; rfl, rfl, rfl⟩
        | some ad => exact ⟨false, by rw [Op.equalIn, Sem.run_bind, run_underlying (T.uslice htag)]; rfl, rfl, rfl⟩
      | sl b off n c es l hlen h0 => simp at hlen; omega
    · cases h
  · cases h
theorem vbin_sound {op : BinOp} {t : TypeId} {x y : AV} {v : AV} (h : vbin P op t x y = some v) (ox oy : Operand) {a b : Value} (hx : RepV γ S w a x) (hy : RepV γ S w b y) :
    ∃ u, (do eqGuard op t ox oy a b; binOp op t a b : Sem Value).run P w = .ok u w ∧ RepV γ S w u v := by
  unfold vbin at h
  split at h
  · obtain ⟨rfl, ha⟩ := lit_inv hx
    obtain ⟨rfl, hb⟩ := lit_inv hy
    obtain ⟨u, hu, rfl⟩ := Option.map_eq_some_iff.1 h
    exact ⟨u, by rw [eqGuard_at_int]; simp [run_pbin t hu], lit_rep (pbin_plain hu)⟩
  · obtain ⟨rfl, ha⟩ := lit_inv hx
    obtain ⟨rfl, hb⟩ := lit_inv hy
    obtain ⟨u, hu, rfl⟩ := Option.map_eq_some_iff.1 h
    exact ⟨u, by rw [eqGuard_at_string]; simp [run_pstr t hu], lit_rep (pbin_plain (op := op) (x := .string _) (y := .string _) hu)⟩
  · split at h
    · rename_i s d hs hd
      split at h
      · rename_i hf
        cases h
        obtain ⟨e, k1, k2, k3⟩ := veqF_sound hd hf hx hy
        exact ⟨_, run_eqop hs k2 k3 k1 ox oy, ⟨_, rfl⟩⟩
      · obtain ⟨e, he, rfl⟩ := Option.map_eq_some_iff.1 h
        obtain ⟨k1, k2, k3⟩ := veq_sound hd he hx hy
        exact ⟨_, run_eqop hs k2 k3 k1 ox oy, lit_rep rfl⟩
    · cases h
end
end Go.Proofs.Ytjmjillfclfkgaa.am
