/-
  A machine of values: operators, slices, fields, elements: operations that turn nothing. No program is named here.
-/
import Derived.Test.YthifckknijdgfaaAm2
import Derived.Test.YthifckknijdgfaaTexts
import Derived.Laws.StructEq
namespace Go.Proofs.Ythifckknijdgfaa.am
open Go.ChangeShapes Go.WideShapes Go.ChangeAt Go.RowKit
set_option linter.unusedVariables false
set_option linter.unusedSimpArgs false

/-! Operators -/
def pint (op : BinOp) (k : IntKind) (a b : Int) : Option Value :=
  match op with
  | .add => some (.int k (k.wrap (a + b)))
  | .sub => some (.int k (k.wrap (a - b)))
  | .mul => some (.int k (k.wrap (a * b)))
  | .quo => if b = 0 then none else some (.int k (k.wrap (a.tdiv b)))
  | .rem => if b = 0 then none else some (.int k (a.tmod b))
  | .and => some (.int k (k.wrap (BitVec.ofInt k.bits a &&& BitVec.ofInt k.bits b).toNat))
  | .or => some (.int k (k.wrap (BitVec.ofInt k.bits a ||| BitVec.ofInt k.bits b).toNat))
  | .xor => some (.int k (k.wrap (BitVec.ofInt k.bits a ^^^ BitVec.ofInt k.bits b).toNat))
  | .andNot => some (.int k (k.wrap (BitVec.ofInt k.bits a &&& ~~~BitVec.ofInt k.bits b).toNat))
  | .eql => some (.bool (decide (a = b)))
  | .neq => some (.bool (!decide (a = b)))
  | .lss => some (.bool (decide (a < b)))
  | .leq => some (.bool (decide (a ≤ b)))
  | .gtr => some (.bool (decide (b < a)))
  | .geq => some (.bool (decide (b ≤ a)))
  | _ => none
def pstr (op : BinOp) (a b : ByteArray) : Option Value :=
  match op with
  | .add => if a.size + b.size ≤ 9223372036854775807 then some (.string (a ++ b)) else none
  | .eql => some (.bool (decide (a = b)))
  | .neq => some (.bool (!decide (a = b)))
  | .lss => some (.bool (Op.bytesLess a.toList b.toList))
  | .leq => some (.bool (Op.bytesLess a.toList b.toList || decide (a = b)))
  | .gtr => some (.bool (!(Op.bytesLess a.toList b.toList || decide (a = b))))
  | .geq => some (.bool (!Op.bytesLess a.toList b.toList))
  | _ => none
def pbin (op : BinOp) (x y : Value) : Option Value :=
  match x, y with
  | .int k a, .int k' b =>
    match op with
    | .shl => if b < 0 then none else some (.int k (k.wrap (a * 2 ^ min b.toNat k.bits)))
    | .shr => if b < 0 then none else some (.int k (a.fdiv (2 ^ min b.toNat k.bits)))
    | _ => if k = k' then pint op k a b else none
  | .string a, .string b => pstr op a b
  | _, _ => none
theorem pbin_plain {op : BinOp} {x y v : Value} (h : pbin op x y = some v) : plain v = true := by
  unfold pbin at h
  split at h
  · split at h
    · split at h <;> cases h; rfl
    · split at h <;> cases h; rfl
    · split at h
      · unfold pint at h
        split at h <;> first | (cases h; rfl) | (split at h <;> cases h; rfl) | cases h
      · cases h
  · unfold pstr at h
    split at h <;> first | (cases h; rfl) | (split at h <;> cases h; rfl) | cases h
  · cases h

def isEqOp : BinOp → Option Bool
  | .eql => some true
  | .neq => some false
  | _ => none
/-- Are two operands of a type the same? -/
def veq (tag : Tag) (x y : AV) : Option Bool :=
  match x, y with
  | .v (.c (.pv (.lit (.bool p)))), .v (.c (.pv (.lit (.bool q)))) => (match tag with | .bool => some (decide (p = q)) | _ => none)
  | .v (.c (.pv (.lit (.pointer none)))), .v (.c (.pv (.lit (.pointer none)))) => (match tag with | .pointer _ => some true | _ => none)
  | .v (.c (.ptr _ _)), .v (.c (.pv (.lit (.pointer none)))) => (match tag with | .pointer _ => some false | _ => none)
  | .v (.c (.pv (.lit .nilFunc))), .v (.c (.pv (.lit .nilFunc))) => (match tag with | .func => some true | _ => none)
  | .v (.c (.fn _ _ _)), .v (.c (.pv (.lit .nilFunc))) => (match tag with | .func => some false | _ => none)
  | .v (.c (.pv .nilS)), .v (.c (.pv .nilS)) => (match tag with | .slice _ => some true | _ => none)
  | .v (.c (.pv (.sl _ (_ :: _)))), .v (.c (.pv .nilS)) => (match tag with | .slice _ => some false | _ => none)
  | _, _ => none
/-- Is it not told whether two operands are the same? -/
def veqF (tag : Tag) (x y : AV) : Bool :=
  match x, y with
  | .v (.c (.pv (.sl _ []))), .v (.c (.pv .nilS)) => (match tag with | .slice _ => true | _ => false)
  | _, _ => false
/-- The fields of a struct type whose values may be compared: of one cell, a bool, a number, a text. -/
def eqFld (P : Program) (f : Field) : Option (Nat × Tag) :=
  if f.name = "_" then none else
  match P.underlying f.type with
  | some .bool => some (f.offset, .bool)
  | some (.int k) => some (f.offset, .int k)
  | some .string => some (f.offset, .string)
  | _ => none
def eqTys (P : Program) (t : TypeId) : Option (List (Nat × Tag)) :=
  if P.stoodInHeld t = false ∧ P.eqGuardType P.depth t = false then
    match P.underlying t with
    | some (.struct fs) => fs.toList.mapM (eqFld P)
    | _ => none
  else none
def eqCell (x y : Option AC) (tg : Tag) : Option Bool :=
  match x, y, tg with
  | some (.pv (.lit (.int k a))), some (.pv (.lit (.int k' b))), .int _ => if k = k' then some (decide (a = b)) else none
  | some (.pv (.lit (.bool a))), some (.pv (.lit (.bool b))), .bool => some (decide (a = b))
  | some (.pv (.lit (.string a))), some (.pv (.lit (.string b))), .string => some (decide (a = b))
  | _, _, _ => none
def eqCells (l m : List AC) : List (Nat × Tag) → Option Bool
  | [] => some true
  | p :: r =>
    match eqCell l[p.1]? m[p.1]? p.2, eqCells l m r with
    | some a, some b => some (a && b)
    | _, _ => none
/-- Any two operands. -/
def vbin (P : Program) (op : BinOp) (t : TypeId) (x y : AV) : Option AV :=
  match x, y with
  | .v (.c (.pv (.lit (.int k a)))), .v (.c (.pv (.lit (.int k' b)))) => (pbin op (.int k a) (.int k' b)).map fun v => .v (.c (.pv (.lit v)))
  | .v (.c (.pv (.lit (.string a)))), .v (.c (.pv (.lit (.string b)))) => (pstr op a b).map fun v => .v (.c (.pv (.lit v)))
  | .v (.agg l), .v (.agg m) =>
    match isEqOp op, eqTys P t with
    | some s, some fs => (eqCells l m fs).map fun e => .v (.c (.pv (.lit (.bool (e == s)))))
    | _, _ => none
  | _, _ =>
    match isEqOp op, td P t with
    | some s, some d => if veqF d.tag x y = true then some (.v (.c .flag)) else (veq d.tag x y).map fun e => .v (.c (.pv (.lit (.bool (e == s)))))
    | _, _ => none

section
variable {P : Program} {γ : Nat → G} {S : CS} {w : World}
theorem lit_rep {v : Value} (h : plain v = true) : RepV γ S w v (.v (.c (.pv (.lit v)))) := RepP.lit v h
theorem lit_inv {x v : Value} (h : RepV γ S w x (.v (.c (.pv (.lit v))))) : x = v ∧ plain v = true := by cases h; exact ⟨rfl, by assumption⟩
theorem nilS_inv {x : Value} (h : RepV γ S w x (.v (.c (.pv .nilS)))) : x = .slice none 0 0 := by cases h; rfl

theorem run_pint {op : BinOp} {k : IntKind} {a b : Int} {v : Value} (t : TypeId) (h : pint op k a b = some v) : (binOp op t (.int k a) (.int k b)).run P w = .ok v w := by
  cases op <;> simp only [pint, Option.some.injEq] at h <;> first
    | (cases h; done)
    | (subst h; simp [binOp, Op.intArith, Op.intCmp, Op.intBits, bne, BEq.beq]; done)
    | (split at h
       · cases h
       · rename_i hb
         cases h
         simp [binOp, Op.intDiv, hb])
theorem run_pstr {op : BinOp} {a b : ByteArray} {v : Value} (t : TypeId) (h : pstr op a b = some v) : (binOp op t (.string a) (.string b)).run P w = .ok v w := by
  have e : (a.toList == b.toList) = decide (a = b) := bs.text_eq a b
  cases op <;> simp only [pstr, Option.some.injEq] at h <;> first
    | (cases h; done)
    | (subst h; simp [binOp, Op.stringOp, e]; done)
    | (split at h
       · rename_i hb
         cases h
         have : ¬ (9223372036854775807 : Int) < (a.size : Int) + (b.size : Int) := by omega
         simp [binOp, Op.stringOp, this]
       · cases h)
theorem run_pbin {op : BinOp} {x y v : Value} (t : TypeId) (h : pbin op x y = some v) : (binOp op t x y).run P w = .ok v w := by
  unfold pbin at h
  split at h
  · split at h
    · split at h
      · cases h
      · rename_i hb; cases h; simp [binOp, Op.shift, hb]
    · split at h
      · cases h
      · rename_i hb; cases h; simp [binOp, Op.shift, hb]
    · split at h
      · rename_i hk; subst hk; exact run_pint t h
      · cases h
  · exact run_pstr t h
  · cases h
/-- Values other than numbers, texts, structs .. -/
def sole : Value → Bool
  | .bool _ | .pointer _ | .slice _ _ _ | .func _ _ _ | .nilFunc => true
  | _ => false
theorem run_eqop {op : BinOp} {s : Bool} (hs : isEqOp op = some s) {t : TypeId} {x y : Value} {e : Bool} (hx : sole x = true) (hy : sole y = true) (h : (Op.equal t x y).run P w = .ok e w) (ox oy : Operand) :
    (do eqGuard op t ox oy x y; binOp op t x y : Sem Value).run P w = .ok (.bool (e == s)) w := by
  have hg : eqGuard op t ox oy x y = pure () := by cases x <;> simp [sole] at hx <;> cases op <;> rfl
  rw [hg]
  cases op <;> simp only [isEqOp, Option.some.injEq, reduceCtorEq] at hs <;> subst hs
  · have : binOp .eql t x y = (do pure (.bool (← Op.equal t x y))) := by cases x <;> simp [sole] at hx <;> cases y <;> simp [sole] at hy <;> rfl
    simp [this, h]
  · have : binOp .neq t x y = (do pure (.bool (!(← Op.equal t x y)))) := by cases x <;> simp [sole] at hx <;> cases y <;> simp [sole] at hy <;> rfl
    simp [this, h]
theorem equal_eq (t : TypeId) (x y : Value) : Op.equal t x y = Op.equalIn (9999 + 1) t x y := rfl
theorem veq_sound {t : TypeId} {d : TD} (hd : td P t = some d) {x y : AV} {e : Bool} (h : veq d.tag x y = some e) {a b : Value} (hx : RepV γ S w a x) (hy : RepV γ S w b y) : (Op.equal t a b).run P w = .ok e w ∧ sole a = true ∧ sole b = true := by
  obtain ⟨i, ud, z, T⟩ := td_ok hd
  unfold veq at h
  rw [equal_eq]
  split at h
  · obtain ⟨rfl, _⟩ := lit_inv hx
    obtain ⟨rfl, _⟩ := lit_inv hy
    split at h
    · rename_i htag
      cases h
      exact ⟨by rw [Op.equalIn, Sem.run_bind, run_underlying (T.ubool htag)]; rfl, rfl, rfl⟩
    · cases h
  · obtain ⟨rfl, _⟩ := lit_inv hx
    obtain ⟨rfl, _⟩ := lit_inv hy
    split at h
    · rename_i htag
      cases h
      exact ⟨by rw [Op.equalIn, Sem.run_bind, run_underlying (T.upointer htag)]; rfl, rfl, rfl⟩
    · cases h
  · obtain ⟨b', hb', rfl⟩ := hx
    obtain ⟨rfl, _⟩ := lit_inv hy
    split at h
    · rename_i htag
      cases h
      exact ⟨by rw [Op.equalIn, Sem.run_bind, run_underlying (T.upointer htag)]; rfl, rfl, rfl⟩
    · cases h
  · obtain ⟨rfl, _⟩ := lit_inv hx
    obtain ⟨rfl, _⟩ := lit_inv hy
    split at h
    · rename_i htag
      cases h
      obtain ⟨_, _, _, hu⟩ := T.ufunc htag
      exact ⟨by rw [Op.equalIn, Sem.run_bind, run_underlying hu]; rfl, rfl, rfl⟩
    · cases h
  · obtain ⟨xs, ys, rfl, _⟩ := hx
    obtain ⟨rfl, _⟩ := lit_inv hy
    split at h
    · rename_i htag
      cases h
      obtain ⟨_, _, _, hu⟩ := T.ufunc htag
      exact ⟨by rw [Op.equalIn, Sem.run_bind, run_underlying hu]; rfl, rfl, rfl⟩
    · cases h
  · obtain rfl := nilS_inv hx
    obtain rfl := nilS_inv hy
    split at h
    · rename_i htag
      cases h
      exact ⟨by rw [Op.equalIn, Sem.run_bind, run_underlying (T.uslice htag)]; rfl, rfl, rfl⟩
    · cases h
  · obtain rfl := nilS_inv hy
    split at h
    · rename_i htag
      cases h
      cases hx
      exact ⟨by rw [Op.equalIn, Sem.run_bind, run_underlying (T.uslice htag)]; rfl, rfl, rfl⟩
    · cases h
  · cases h

theorem veqF_sound {t : TypeId} {d : TD} (hd : td P t = some d) {x y : AV} (h : veqF d.tag x y = true) {a b : Value} (hx : RepV γ S w a x) (hy : RepV γ S w b y) : ∃ e, (Op.equal t a b).run P w = .ok e w ∧ sole a = true ∧ sole b = true := by
  obtain ⟨i, ud, z, T⟩ := td_ok hd
  unfold veqF at h
  rw [equal_eq]
  split at h
  · obtain rfl := nilS_inv hy
    split at h
    · rename_i htag
      cases hx with
      | emp ad c es hm ha =>
        cases ad with
        | none =>
          obtain rfl := ha rfl
          exact ⟨true, by rw [Op.equalIn, Sem.run_bind, run_underlying (T.uslice htag)]; rfl, rfl, rfl⟩
        | some ad => exact ⟨false, by rw [Op.equalIn, Sem.run_bind, run_underlying (T.uslice htag)]; rfl, rfl, rfl⟩
      | sl b off n c es l hlen h0 => simp at hlen; omega
    · cases h
  · cases h
theorem eqCell_sound {d : Nat} {f : Field} {p : Nat × Tag} (hf : eqFld P f = some p) {xs ys : Array Value} {l m : List AC} (hx : RepCs γ S w xs.toList l) (hy : RepCs γ S w ys.toList m) {e : Bool} (h : eqCell l[p.1]? m[p.1]? p.2 = some e) :
    f.name ≠ "_" ∧ ∃ a b, (part f.type xs f.offset).run P w = .ok a w ∧ (part f.type ys f.offset).run P w = .ok b w ∧ (Op.equalIn (d + 1) f.type a b).run P w = .ok e w := by
  unfold eqFld at hf
  split at hf
  · cases hf
  · rename_i hn
    refine ⟨hn, ?_⟩
    have prt : ∀ {zs : Array Value} {k : List AC} {v : Value} {u : TypeDesc}, P.underlying f.type = some u → isAggD u = false → RepCs γ S w zs.toList k → k[f.offset]? = some (.pv (.lit v)) → (part f.type zs f.offset).run P w = .ok v w := fun {zs k v u} hu hag hz hk => by
      obtain ⟨x, h1, h2⟩ := hz.2 _ _ hk
      cases h2
      have h1' : zs[f.offset]? = some v := by simpa using h1
      have hia : (isAgg f.type).run P w = .ok false w := by
        unfold Go.isAgg
        rw [Sem.run_bind, run_underlying hu w]
        cases u <;> first | rfl | cases hag
      unfold part
      rw [Sem.run_bind, hia]
      simp [h1']
    unfold eqCell at h
    cases hu : P.underlying f.type with
    | none => rw [hu] at hf; cases hf
    | some u =>
      rw [hu] at hf
      split at hf
      · rename_i hh; cases hh; cases hf
        split at h <;> first | cases h | skip
        all_goals (rename_i a b g1 g2 g3)
        all_goals (first | cases g3 | skip)
        exact ⟨_, _, prt hu rfl hx g1, prt hu rfl hy g2, by rw [run_equalIn_bool' w d f.type _ _ hu]; rfl⟩
      · rename_i k hh; cases hh; cases hf
        split at h <;> first | cases h | skip
        all_goals (rename_i g1 g2 g3)
        all_goals (first | cases g3 | skip)
        split at h
        case isFalse => cases h
        rename_i hkk
        subst hkk
        cases h
        exact ⟨_, _, prt hu rfl hx g1, prt hu rfl hy g2, by rw [run_equalIn_int w d f.type _ _ _ _ hu]; rfl⟩
      · rename_i hh; cases hh; cases hf
        split at h <;> first | cases h | skip
        all_goals (rename_i a b g1 g2 g3)
        all_goals (first | cases g3 | skip)
        exact ⟨_, _, prt hu rfl hx g1, prt hu rfl hy g2, by rw [run_equalIn_string w d f.type _ _ hu, bs.text_eq]⟩
      · cases hf
theorem eqCells_sound {d : Nat} {xs ys : Array Value} {l m : List AC} (hx : RepCs γ S w xs.toList l) (hy : RepCs γ S w ys.toList m) : ∀ {fs : List Field} {ps : List (Nat × Tag)} {e : Bool}, fs.mapM (eqFld P) = some ps → eqCells l m ps = some e → (Op.eqFields (d + 1) xs ys fs).run P w = .ok e w
  | [], ps, e, hp, h => by simp at hp; subst hp; cases h; rfl
  | f :: fs, ps, e, hp, h => by
    simp only [List.mapM_cons, Option.bind_eq_bind, Option.pure_def] at hp
    cases hf : eqFld P f with
    | none => simp [hf] at hp
    | some p =>
      cases hr : fs.mapM (eqFld P) with
      | none => simp [hf, hr] at hp
      | some r =>
        simp [hf, hr] at hp
        subst hp
        unfold eqCells at h
        split at h
        · rename_i a b h1 h2
          cases h
          obtain ⟨hn, u, v, k1, k2, k3⟩ := eqCell_sound (d := d) hf hx hy h1
          have ih := eqCells_sound (d := d) hx hy hr h2
          unfold Op.eqFields
          simp only [hn, ne_eq, not_false_eq_true, if_true, Sem.run_bind, k1, k2, k3, Result.andThen_ok]
          cases a <;> simp [ih]
        · cases h
theorem vbin_sound {op : BinOp} {t : TypeId} {x y : AV} {v : AV} (h : vbin P op t x y = some v) (ox oy : Operand) {a b : Value} (hx : RepV γ S w a x) (hy : RepV γ S w b y) :
    ∃ u, (do eqGuard op t ox oy a b; binOp op t a b : Sem Value).run P w = .ok u w ∧ RepV γ S w u v := by
  unfold vbin at h
  split at h
  · obtain ⟨rfl, ha⟩ := lit_inv hx
    obtain ⟨rfl, hb⟩ := lit_inv hy
    obtain ⟨u, hu, rfl⟩ := Option.map_eq_some_iff.1 h
    exact ⟨u, by rw [eqGuard_at_int]; simp [run_pbin t hu], lit_rep (pbin_plain hu)⟩
  · obtain ⟨rfl, ha⟩ := lit_inv hx
    obtain ⟨rfl, hb⟩ := lit_inv hy
    obtain ⟨u, hu, rfl⟩ := Option.map_eq_some_iff.1 h
    exact ⟨u, by rw [eqGuard_at_string]; simp [run_pstr t hu], lit_rep (pbin_plain (op := op) (x := .string _) (y := .string _) hu)⟩
  · rename_i l m
    obtain ⟨xs, rfl, hxs⟩ := hx
    obtain ⟨ys, rfl, hys⟩ := hy
    split at h
    · rename_i s fs hs hfs
      obtain ⟨e, he, rfl⟩ := Option.map_eq_some_iff.1 h
      unfold eqTys at hfs
      split at hfs
      · rename_i hg
        split at hfs
        · rename_i fa hu
          have hfo : P.fieldsOf t = fa := by unfold Program.fieldsOf; rw [hu]
          have hu' : P.underlying t = some (.struct (P.fieldsOf t)) := by rw [hfo]; exact hu
          have key := eqCells_sound (d := 9998) hxs hys hfs he
          have heq : (Op.equalIn 10000 t (.agg xs) (.agg ys)).run P w = .ok e w := by
            rw [run_equalIn_struct w 9999 t xs ys hu' hg.1, hfo]; exact key
          refine ⟨.bool (e == s), ?_, lit_rep rfl⟩
          rw [Sem.run_bind, run_eqGuard_agg w op t ox oy xs ys hg.2, Result.andThen_ok]
          cases op <;> simp only [isEqOp, Option.some.injEq, reduceCtorEq] at hs <;> subst hs
          · rw [run_eql_struct, heq]; cases e <;> rfl
          · rw [run_neq_struct, heq]; cases e <;> rfl
        · cases hfs
      · cases hfs
    · cases h
  · split at h
    · rename_i s d hs hd
      split at h
      · rename_i hf
        cases h
        obtain ⟨e, k1, k2, k3⟩ := veqF_sound hd hf hx hy
        exact ⟨_, run_eqop hs k2 k3 k1 ox oy, ⟨_, rfl⟩⟩
      · obtain ⟨e, he, rfl⟩ := Option.map_eq_some_iff.1 h
        obtain ⟨k1, k2, k3⟩ := veq_sound hd he hx hy
        exact ⟨_, run_eqop hs k2 k3 k1 ox oy, lit_rep rfl⟩
    · cases h
end
end Go.Proofs.Ythifckknijdgfaa.am
