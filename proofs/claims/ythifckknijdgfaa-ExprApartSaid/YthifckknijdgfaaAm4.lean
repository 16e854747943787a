/-
  A machine of values: slices, fields, elements, lengths. No program is named here.
-/
import Derived.Test.YthifckknijdgfaaAm3
namespace Go.Proofs.Ythifckknijdgfaa.am
open Go.ChangeShapes Go.WideShapes Go.ChangeAt Go.RowKit
set_option linter.unusedVariables false
set_option linter.unusedSimpArgs false

def asSl (es : Nat) : AV → Option (List (List PV))
  | .v (.c (.pv (.sl es' l))) => if es' = es then some l else none
  | .v (.c (.pv .nilS)) => some []
  | .v (.c (.row _ es' l)) => if es' = es then some l else none
  | .v (.c (.cut es' l)) => if es' = es then some l else none
  | _ => none
def asInt? : AV → Option Int
  | .v (.c (.pv (.lit (.int _ n)))) => some n
  | _ => none

section
variable {P : Program} {γ : Nat → G} {S : CS} {w : World}
theorem asSl_rep {es : Nat} {a : AV} {l : List (List PV)} {x : Value} (hx : RepV γ S w x a) (h : asSl es a = some l) : RepP S w x (.sl es l) := by
  unfold asSl at h
  split at h
  · split at h
    · rename_i he; subst he; cases h; exact hx
    · cases h
  · cases h
    obtain rfl := nilS_inv hx
    exact .emp none 0 es (by decide) (fun _ => rfl)
  · split at h
    · rename_i he; subst he; cases h; exact hx.1
    · cases h
  · split at h
    · rename_i he; subst he; cases h; exact hx.1
    · cases h
  · cases h
theorem asInt_inv {a : AV} {n : Int} {x : Value} (hx : RepV γ S w x a) (h : asInt? a = some n) : ∃ k, x = .int k n := by
  unfold asInt? at h
  split at h
  · cases h; obtain ⟨rfl, _⟩ := lit_inv hx; exact ⟨_, rfl⟩
  · cases h

structure SlR (S : CS) (w : World) (es : Nat) (l : List (List PV)) (a : Option Addr) (c : Nat) : Prop where
  cap : l.length ≤ c
  most : c ≤ 9223372036854775807
  nil : a = none → c = 0
  at' : l = [] ∨ ∃ b off, a = some ⟨b, off, none⟩ ∧ (∀ e ∈ l, e.length = es) ∧ ∀ (i : Nat) e (j : Nat) p, l[i]? = some e → e[j]? = some p → S b (off + i * es + j) ∧ ∃ u, w.cell? ⟨b, off + i * es + j, none⟩ = some u ∧ RepP S w u p
theorem sl_inv {es : Nat} {l : List (List PV)} {x : Value} (h : RepP S w x (.sl es l)) : ∃ a c, x = .slice a l.length c ∧ SlR S w es l a c := by
  cases h with
  | emp a c es hm ha => exact ⟨a, c, rfl, Nat.zero_le _, hm, ha, .inl rfl⟩
  | sl b off n c es l hlen h0 hc hm hes V hcell hV =>
    subst hlen
    exact ⟨_, c, rfl, hc, hm, by simp, .inr ⟨b, off, rfl, hes, fun i e j p h1 h2 => ⟨(hcell i e j p h1 h2).1, _, (hcell i e j p h1 h2).2, hV i e j p h1 h2⟩⟩⟩
theorem sl_intro {es : Nat} {l : List (List PV)} {a : Option Addr} {c : Nat} (h : SlR S w es l a c) : RepP S w (.slice a l.length c) (.sl es l) := by
  rcases h.at' with rfl | ⟨b, off, rfl, hes, hc⟩
  · exact .emp a c es h.most h.nil
  · rcases Nat.eq_zero_or_pos l.length with h0 | h0
    · have : l = [] := List.length_eq_zero_iff.1 h0
      subst this
      exact .emp _ c es h.most h.nil
    · refine .sl b off _ c es l rfl h0 h.cap h.most hes (fun i j => (w.cell? ⟨b, off + i * es + j, none⟩).getD undef) (fun i e j p h1 h2 => ?_) (fun i e j p h1 h2 => ?_)
      · obtain ⟨k1, u, k2, k3⟩ := hc i e j p h1 h2
        exact ⟨k1, by rw [k2]; rfl⟩
      · obtain ⟨k1, u, k2, k3⟩ := hc i e j p h1 h2
        rw [k2]; exact k3

/-! len -/
def vlen (d : TD) (x : AV) : Option AV :=
  match d.tag with
  | .string => (match x with | .v (.c (.pv (.lit (.string s)))) => some (.v (.c (.pv (.lit (.int .i64 s.size))))) | _ => none)
  | .slice _ =>
    match x with
    | .v (.c (.pv (.sl _ l))) => some (.v (.c (.pv (.lit (.int .i64 l.length)))))
    | .v (.c (.pv .nilS)) => some (.v (.c (.pv (.lit (.int .i64 0)))))
    | .v (.c (.row _ _ l)) => some (.v (.c (.pv (.lit (.int .i64 l.length)))))
    | .v (.c (.cut _ l)) => some (.v (.c (.pv (.lit (.int .i64 l.length)))))
    | .v (.c (.arr _ _ n)) => some (.v (.c (.pv (.lit (.int .i64 n)))))
    | _ => none
  | _ => none
theorem vlen_sound {t : TypeId} {d : TD} (hd : td P t = some d) {x v : AV} (h : vlen d x = some v) (ty : TypeId) {a : Value} (hx : RepV γ S w a x) : ∃ u, (Builtin.len_ #[t] ty #[a]).run P w = .ok u w ∧ RepV γ S w u v := by
  obtain ⟨i, ud, z, T⟩ := td_ok hd
  have slen : ∀ (e : TypeId) (b : Option Addr) (n c : Nat), P.underlying t = some (.slice e) → (Builtin.len_ #[t] ty #[.slice b n c]).run P w = .ok (.int .i64 n) w := fun e b n c hu => by
    simp [Builtin.len_, run_underlying hu, goInt]
  unfold vlen at h
  split at h
  · rename_i htag
    split at h
    · cases h
      obtain ⟨rfl, _⟩ := lit_inv hx
      exact ⟨_, by simp [Builtin.len_, run_underlying (T.ustring htag), goInt], lit_rep rfl⟩
    · cases h
  · rename_i e htag
    have hu := T.uslice htag
    split at h
    · cases h
      obtain ⟨b, c, rfl, _⟩ := sl_inv hx
      exact ⟨_, slen e b _ c hu, lit_rep rfl⟩
    · cases h
      obtain rfl := nilS_inv hx
      exact ⟨_, slen e _ _ _ hu, lit_rep rfl⟩
    · cases h
      obtain ⟨b, c, rfl, _⟩ := sl_inv hx.1
      exact ⟨_, slen e b _ c hu, lit_rep rfl⟩
    · cases h
      obtain ⟨b, c, rfl, _⟩ := sl_inv hx.1
      exact ⟨_, slen e b _ c hu, lit_rep rfl⟩
    · cases h
      obtain ⟨⟨b, c, rfl⟩, _⟩ := hx
      exact ⟨_, slen e b _ c hu, lit_rep rfl⟩
    · cases h
  · cases h

/-! Fields -/
def vfieldAddr (d : TD) (x : AV) (f : Nat) : Option AV :=
  match d.tag, d.flds[f]? with
  | .struct, some (off, sz, _) =>
    if sz = 0 then none else
    match x with
    | .v (.c (.ptr id o)) => some (.v (.c (.ptr id (o + off))))
    | .rp cells o => some (.rp cells (o + off))
    | .ep id es i o => some (.ep id es i (o + off))
    | _ => none
  | _, _ => none
theorem run_fieldAt {t : TypeId} {d : TD} (hd : td P t = some d) (htag : d.tag = .struct) {f off sz : Nat} {ag : Bool} (hf : d.flds[f]? = some (off, sz, ag)) (hsz : sz ≠ 0) (b o : Nat) :
    (Instr.fieldAt t (.pointer (some ⟨b, o, none⟩)) f).run P w = .ok (.pointer (some ⟨b, o + off, none⟩)) w := by
  obtain ⟨i, ud, z, T⟩ := td_ok hd
  obtain ⟨fs, hu, hm⟩ := T.ustruct htag
  obtain ⟨h1, h2⟩ := mapM_at hm
  obtain ⟨x, hx, hfx⟩ := h2 f _ hf
  have hx' : fs[f]? = some x := by simpa using hx
  unfold fld at hfx
  split at hfx
  · rename_i i' u' hi' hu'
    cases hfx
    have hs : (sizeOf x.type).run P w = .ok i'.size w := by simp [sizeOf, typeInfo, hi']
    simp [Instr.fieldAt, run_underlying hu, hx', Instr.sureAddr, fieldPlace, hs, hsz, addr_add]
  · cases hfx
theorem vfieldAddr_sound {t : TypeId} {d : TD} (hd : td P t = some d) {x v : AV} {f : Nat} (h : vfieldAddr d x f = some v) {a : Value} (hx : RepV γ S w a x) : ∃ u, (Instr.fieldAt t a f).run P w = .ok u w ∧ RepV γ S w u v := by
  unfold vfieldAddr at h
  split at h
  · rename_i off sz ag htag hf
    split at h
    · cases h
    · rename_i hsz
      split at h
      · cases h
        obtain ⟨b, hb, rfl⟩ := hx
        exact ⟨_, run_fieldAt hd htag hf hsz b _, b, hb, rfl⟩
      · cases h
        obtain ⟨b, o, rfl, hc⟩ := hx
        exact ⟨_, run_fieldAt hd htag hf hsz b _, b, o, by rw [Nat.add_assoc], hc⟩
      · cases h
        obtain ⟨b, rfl, hx⟩ := hx
        exact ⟨_, run_fieldAt hd htag hf hsz b _, b, by rw [Nat.add_assoc], hx⟩
      · cases h
  · cases h
def vfield (d : TD) (x : AV) (f : Nat) : Option AV :=
  match d.tag, d.flds[f]?, x with
  | .struct, some (off, sz, ag), .v (.agg l) => if ag = true then some (.v (.agg ((l.drop off).take sz))) else (l[off]?).map fun c => .v (.c c)
  | _, _, _ => none
theorem vfield_sound {t : TypeId} {d : TD} (hd : td P t = some d) {x v : AV} {f : Nat} (h : vfield d x f = some v) {a : Value} (hx : RepV γ S w a x) : ∃ u, (Instr.field t a f).run P w = .ok u w ∧ RepV γ S w u v := by
  unfold vfield at h
  split at h
  · rename_i off sz ag l htag hf
    obtain ⟨i, ud, z, T⟩ := td_ok hd
    obtain ⟨fs, hu, hm⟩ := T.ustruct htag
    obtain ⟨h1, h2⟩ := mapM_at hm
    obtain ⟨x, hx', hfx⟩ := h2 f _ hf
    have hx' : fs[f]? = some x := by simpa using hx'
    obtain ⟨cs, rfl, hcs⟩ := hx
    unfold fld at hfx
    split at hfx
    · rename_i i' u' hi' hu'
      cases hfx
      have hs : (sizeOf x.type).run P w = .ok i'.size w := by simp [sizeOf, typeInfo, hi']
      have hag : (isAgg x.type).run P w = .ok (isAggD u') w := by
        unfold Go.isAgg
        rw [Sem.run_bind, run_underlying hu' w]
        cases u' <;> rfl
      split at h
      · rename_i ha
        cases h
        refine ⟨.agg (cs.extract x.offset (x.offset + i'.size)), by simp [Instr.field, run_underlying hu, hx', part, hag, ha, asAgg, hs], _, rfl, ?_⟩
        have := hcs.seg x.offset i'.size
        rw [Array.toList_extract, List.extract_eq_take_drop, Nat.add_sub_cancel_left]
        exact this
      · rename_i ha
        obtain ⟨c, hc, rfl⟩ := Option.map_eq_some_iff.1 h
        obtain ⟨u, k1, k2⟩ := hcs.2 _ c hc
        have k1' : cs[x.offset]? = some u := by simpa using k1
        exact ⟨u, by simp [Instr.field, run_underlying hu, hx', part, hag, ha, asAgg, k1'], k2⟩
    · cases hfx
  · cases h

/-! Elements -/
def vindexAddr (P : Program) (d : TD) (x : AV) (n : Int) : Option AV :=
  match d.tag with
  | .slice e =>
    match td P e with
    | some de =>
      match x with
      | .v (.c (.arr id es m)) => if es = de.sz ∧ 0 ≤ n ∧ n < m then some (.ep id es n.toNat 0) else none
      | _ =>
        match asSl de.sz x with
        | some l => if 0 ≤ n then (l[n.toNat]?).map fun el => .rp el 0 else none
        | none => none
    | none => none
  | _ => none
theorem run_indexAt {t e : TypeId} {de : TD} (hu : P.underlying t = some (.slice e)) (hde : td P e = some de) (b o len c : Nat) (k : IntKind) (n : Int) (h0 : 0 ≤ n) (h1 : n < len) :
    (Instr.indexAt t (.slice (some ⟨b, o, none⟩) len c) (.int k n)).run P w = .ok (.pointer (some ⟨b, o + n.toNat * de.sz, none⟩)) w := by
  obtain ⟨i, ud, z, T⟩ := td_ok hde
  simp [Instr.indexAt, asIntOf, run_underlying hu, T.sizeOf, h0, h1, addr_add]
theorem vindexAddr_sound {t : TypeId} {d : TD} (hd : td P t = some d) {x v : AV} {n : Int} (h : vindexAddr P d x n = some v) {H : Nat → Option AO} (hob : ∀ x o, H x = some o → Obj' γ S w x o) (hH : ∀ id es m, x = .v (.c (.arr id es m)) → ∃ e l, H id = some (.arr e es l) ∧ m = l.length) {a : Value} (hx : RepV γ S w a x) (k : IntKind) :
    ∃ u, (Instr.indexAt t a (.int k n)).run P w = .ok u w ∧ RepV γ S w u v := by
  obtain ⟨i, ud, z, T⟩ := td_ok hd
  unfold vindexAddr at h
  split at h
  · rename_i e htag
    have hu := T.uslice htag
    split at h
    · rename_i de hde
      split at h
      · rename_i id es m
        split at h
        · rename_i hc
          obtain ⟨rfl, h0, h1⟩ := hc
          cases h
          obtain ⟨e', l, hHx, rfl⟩ := hH _ _ _ rfl
          obtain ⟨v0, xs, g1, g2, _⟩ := hob _ _ hHx
          obtain ⟨⟨aa, c, rfl⟩, g⟩ := hx
          rw [g1] at g
          rcases g with g | g
          · cases g
          · cases g
            obtain ⟨_, ho⟩ := g2
            rcases ho with ⟨ho, _⟩ | ⟨g, cap, cur, ho, _⟩
            · simp only [Value.slice.injEq] at ho
              obtain ⟨_, ho2, _⟩ := ho
              omega
            · cases ho
              exact ⟨_, run_indexAt hu hde g 0 _ _ k n h0 h1, g, by simp, .inr ⟨_, _, g1⟩⟩
        · cases h
      · split at h
        · rename_i l hl
          split at h
          · rename_i h0
            obtain ⟨el, hel, rfl⟩ := Option.map_eq_some_iff.1 h
            obtain ⟨aa, c, rfl, hs⟩ := sl_inv (asSl_rep hx hl)
            have h1 : n < l.length := by have := (List.getElem?_eq_some_iff.1 hel).1; omega
            rcases hs.at' with h2 | ⟨b, off, rfl, hes, hc⟩
            · subst h2; simp at hel
            · refine ⟨_, run_indexAt hu hde b off _ _ k n h0 h1, b, off + n.toNat * de.sz, by simp, fun j p hj => hc _ el j p hel hj⟩
          · cases h
        · cases h
    · cases h
  · cases h

/-- An element of a text. -/
def vindex (d : TD) (x : AV) (n : Int) : Option AV :=
  match d.tag, x with
  | .string, .v (.c (.pv (.lit (.string s)))) => if 0 ≤ n then (s[n.toNat]?).map fun b => .v (.c (.pv (.lit (.int .u8 b.toNat)))) else none
  | _, _ => none
theorem vindex_sound {t : TypeId} {d : TD} (hd : td P t = some d) {x v : AV} {n : Int} (h : vindex d x n = some v) {a : Value} (hx : RepV γ S w a x) (k : IntKind) : ∃ u, (Instr.index t a (.int k n)).run P w = .ok u w ∧ RepV γ S w u v := by
  obtain ⟨i, ud, z, T⟩ := td_ok hd
  unfold vindex at h
  split at h
  · rename_i s htag
    split at h
    · rename_i h0
      obtain ⟨b, hb, rfl⟩ := Option.map_eq_some_iff.1 h
      obtain ⟨rfl, _⟩ := lit_inv hx
      exact ⟨_, by simp [Instr.index, asIntOf, run_underlying (T.ustring htag), h0, hb], lit_rep rfl⟩
    · cases h
  · cases h

/-! Parts of slices and texts -/
def bnd (x : Option AV) (dflt : Int) : Option Int :=
  match x with
  | none => some dflt
  | some a => asInt? a
def vslice (P : Program) (d : TD) (x : AV) (lo hi mx : Option AV) : Option AV :=
  match d.tag with
  | .string =>
    match x, mx with
    | .v (.c (.pv (.lit (.string s)))), none =>
      match bnd lo 0, bnd hi s.size with
      | some l, some h => if 0 ≤ l ∧ l ≤ h ∧ h ≤ s.size then some (.v (.c (.pv (.lit (.string (s.extract l.toNat h.toNat)))))) else none
      | _, _ => none
    | _, _ => none
  | .slice e =>
    match td P e with
    | some de =>
      match asSl de.sz x with
      | some xs =>
        match bnd lo 0, bnd hi xs.length, mx with
        | some l, some h, none => if 0 ≤ l ∧ l ≤ h ∧ h ≤ xs.length then some (.v (.c (.pv (.sl de.sz ((xs.take h.toNat).drop l.toNat))))) else none
        | some l, some h, some m => if hi.isSome = true ∧ 0 ≤ l ∧ l ≤ h ∧ h ≤ xs.length ∧ asInt? m = some h then some (.v (.c (.cut de.sz ((xs.take h.toNat).drop l.toNat)))) else none
        | _, _, _ => none
      | none => none
    | none => none
  | _ => none

theorem run_bound {x : Value} {k : IntKind} {n : Int} (hx : x = .int k n) (y : Nat) (code : BoundsCode) (h0 : 0 ≤ n) (h1 : n ≤ y) : (Instr.sliceBound x y code).run P w = .ok n.toNat w := by
  subst hx
  simp [Instr.sliceBound, asIntOf, h0, h1]
theorem bnd_inv {x : Option AV} {dflt n : Int} (h : bnd x dflt = some n) {a : Option Value} (ha : ∀ v, x = some v → ∃ u, a = some u ∧ RepV γ S w u v) (hn : x = none → a = none) : (a = none ∧ n = dflt) ∨ ∃ k, a = some (.int k n) := by
  unfold bnd at h
  split at h
  · cases h; exact .inl ⟨hn rfl, rfl⟩
  · obtain ⟨u, rfl, hu⟩ := ha _ rfl
    obtain ⟨k, rfl⟩ := asInt_inv hu h
    exact .inr ⟨k, rfl⟩
/-- The bounds, found. -/
theorem run_bounds {isS : Bool} {len cap : Nat} {lo hi : Option Value} {l h : Int} (hl : (lo = none ∧ l = 0) ∨ ∃ k, lo = some (.int k l)) (hh : (hi = none ∧ h = len) ∨ ∃ k, hi = some (.int k h)) (h0 : 0 ≤ l) (h1 : l ≤ h) (h2 : h ≤ len) (h3 : len ≤ cap) :
    (Instr.sliceBounds isS len cap lo hi none).run P w = .ok (l.toNat, h.toNat, cap) w := by
  have hb : ∀ (k : IntKind) (n : Int) (y : Nat) (code : BoundsCode), 0 ≤ n → n ≤ y → (Instr.sliceBound (.int k n) y code).run P w = .ok n.toNat w := fun k n y code g0 g1 => run_bound rfl y code g0 g1
  unfold Instr.sliceBounds
  rcases hh with ⟨rfl, rfl⟩ | ⟨k, rfl⟩
  · rcases hl with ⟨rfl, rfl⟩ | ⟨k', rfl⟩
    · simp
    · simp [hb k' l len _ h0 (by omega)]
  · rcases hl with ⟨rfl, rfl⟩ | ⟨k', rfl⟩
    · simp [hb k h cap _ (by omega) (by omega)]
    · simp [hb k h cap _ (by omega) (by omega), hb k' l h.toNat _ h0 (by omega)]
theorem run_bounds3 {len cap : Nat} {lo : Option Value} {l h : Int} {k k2 : IntKind} (hl : (lo = none ∧ l = 0) ∨ ∃ k, lo = some (.int k l)) (h0 : 0 ≤ l) (h1 : l ≤ h) (h2 : h ≤ cap) :
    (Instr.sliceBounds true len cap lo (some (.int k h)) (some (.int k2 h))).run P w = .ok (l.toNat, h.toNat, h.toNat) w := by
  have hb : ∀ (k : IntKind) (n : Int) (y : Nat) (code : BoundsCode), 0 ≤ n → n ≤ y → (Instr.sliceBound (.int k n) y code).run P w = .ok n.toNat w := fun k n y code g0 g1 => run_bound rfl y code g0 g1
  unfold Instr.sliceBounds
  rcases hl with ⟨rfl, rfl⟩ | ⟨k', rfl⟩
  · simp [hb k2 h cap _ (by omega) h2, hb k h h.toNat _ (by omega) (by omega)]
  · simp [hb k2 h cap _ (by omega) h2, hb k h h.toNat _ (by omega) (by omega), hb k' l h.toNat _ h0 (by omega)]
/-- A part of a slice. -/
theorem SlR.part {es : Nat} {xs : List (List PV)} {a : Option Addr} {c : Nat} (h : SlR S w es xs a c) (l k m : Nat) (h1 : l ≤ k) (h2 : k ≤ xs.length) (hm : m ≤ c) (hkm : k ≤ m) : SlR S w es ((xs.take k).drop l) (if m = l then a else a.map (·.add (l * es))) (m - l) := by
  have hlen : ((xs.take k).drop l).length = k - l := by simp; omega
  refine ⟨by rw [hlen]; omega, by have := h.most; omega, fun hn => ?_, ?_⟩
  · split at hn
    · rename_i he; omega
    · cases a with
      | none => have := h.nil rfl; omega
      | some a => simp at hn
  · rcases h.at' with rfl | ⟨b, off, rfl, hes, hc⟩
    · left; simp
    · rcases Nat.eq_zero_or_pos (k - l) with h0 | h0
      · left; exact List.length_eq_zero_iff.1 (by rw [hlen]; exact h0)
      · right
        rw [if_neg (by omega)]
        refine ⟨b, off + l * es, by simp [addr_add], fun e he => hes e (List.mem_of_mem_take (List.mem_of_mem_drop he)), fun i e j p hi hj => ?_⟩
        rw [List.getElem?_drop, List.getElem?_take] at hi
        split at hi
        · have := hc (l + i) e j p hi hj
          rwa [Nat.add_mul, ← Nat.add_assoc off] at this
        · cases hi
theorem vslice_sound {t : TypeId} {d : TD} (hd : td P t = some d) {x v : AV} {lo hi mx : Option AV} (h : vslice P d x lo hi mx = some v) {a : Value} {lo' hi' mx' : Option Value} (hx : RepV γ S w a x)
    (hlo : ∀ v, lo = some v → ∃ u, lo' = some u ∧ RepV γ S w u v) (hlo0 : lo = none → lo' = none) (hhi : ∀ v, hi = some v → ∃ u, hi' = some u ∧ RepV γ S w u v) (hhi0 : hi = none → hi' = none)
    (hmx : ∀ v, mx = some v → ∃ u, mx' = some u ∧ RepV γ S w u v) (hmx0 : mx = none → mx' = none) : ∃ u, (Instr.sliceAt t a lo' hi' mx').run P w = .ok u w ∧ RepV γ S w u v := by
  obtain ⟨i, ud, z, T⟩ := td_ok hd
  unfold vslice at h
  split at h
  · rename_i htag
    split at h
    · rename_i s
      split at h
      · rename_i l k hl hk
        split at h
        · rename_i hc
          obtain ⟨h0, h1, h2⟩ := hc
          cases h
          obtain ⟨rfl, _⟩ := lit_inv hx
          obtain rfl := hmx0 rfl
          have hb := run_bounds (P := P) (w := w) (isS := false) (len := s.size) (cap := s.size) (bnd_inv hl hlo hlo0) (bnd_inv hk hhi hhi0) h0 h1 h2 (Nat.le_refl _)
          exact ⟨_, by simp [Instr.sliceAt, Instr.slice, run_underlying (T.ustring htag), hb], lit_rep rfl⟩
        · cases h
      · cases h
    · cases h
  · rename_i e htag
    have hu := T.uslice htag
    split at h
    · rename_i de hde
      obtain ⟨_, _, _, T2⟩ := td_ok hde
      split at h
      · rename_i xs hxs
        obtain ⟨aa, c, rfl, hs⟩ := sl_inv (asSl_rep hx hxs)
        split at h
        · rename_i l k hl hk
          split at h
          · rename_i hc
            obtain ⟨h0, h1, h2⟩ := hc
            cases h
            obtain rfl := hmx0 rfl
            have hb := run_bounds (P := P) (w := w) (isS := true) (bnd_inv hl hlo hlo0) (bnd_inv hk hhi hhi0) h0 h1 h2 hs.cap
            have hp := hs.part l.toNat k.toNat c (by omega) (by omega) (Nat.le_refl _) (by have := hs.cap; omega)
            refine ⟨.slice (if c = l.toNat then aa else aa.map (·.add (l.toNat * de.sz))) (k.toNat - l.toNat) (c - l.toNat), by simp [Instr.sliceAt, Instr.slice, run_underlying hu, hb, T2.sizeOf], ?_⟩
            have := sl_intro hp
            rwa [show ((xs.take k.toNat).drop l.toNat).length = k.toNat - l.toNat by simp; omega] at this
          · cases h
        · rename_i l k m hl hk
          split at h
          · rename_i hc
            obtain ⟨hsm, h0, h1, h2, h3⟩ := hc
            cases h
            obtain ⟨um, rfl, hum⟩ := hmx _ rfl
            obtain ⟨k2, rfl⟩ := asInt_inv hum h3
            rcases bnd_inv hk hhi hhi0 with ⟨hn, _⟩ | ⟨k1, rfl⟩
            · obtain ⟨y, hy⟩ := Option.isSome_iff_exists.1 hsm
              obtain ⟨u, hu', _⟩ := hhi y hy
              rw [hn] at hu'; cases hu'
            · have hb := run_bounds3 (P := P) (w := w) (len := xs.length) (cap := c) (k := k1) (k2 := k2) (bnd_inv hl hlo hlo0) h0 h1 (by have := hs.cap; omega)
              have hp := hs.part l.toNat k.toNat k.toNat (by omega) (by omega) (by have := hs.cap; omega) (Nat.le_refl _)
              refine ⟨.slice (if k.toNat = l.toNat then aa else aa.map (·.add (l.toNat * de.sz))) (k.toNat - l.toNat) (k.toNat - l.toNat), by simp [Instr.sliceAt, Instr.slice, run_underlying hu, hb, T2.sizeOf], ?_, _, _, rfl⟩
              have := sl_intro hp
              rwa [show ((xs.take k.toNat).drop l.toNat).length = k.toNat - l.toNat by simp; omega] at this
          · cases h
        · cases h
      · cases h
    · cases h
  · cases h
end
end Go.Proofs.Ythifckknijdgfaa.am
