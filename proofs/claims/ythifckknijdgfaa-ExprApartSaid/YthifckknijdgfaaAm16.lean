/-
  A machine of values: a region that draws its order, whole. No program is named here.
-/
import Derived.Test.YthifckknijdgfaaAm15
namespace Go.Proofs.Ythifckknijdgfaa.am
open Go.ChangeShapes Go.WideShapes Go.ChangeAt Go.RowKit
set_option linter.unusedVariables false
set_option linter.unusedSimpArgs false

/-! Which operations come ahead of which -/
def deps (o : Oper) : List Nat := (o.after.toList.filter (Region.binds .any)).map (·.on)
/-- Of each operation, all that come ahead of it. -/
def bits (acc : List Nat) : List Nat → Nat
  | [] => 0
  | j :: r => 2 ^ j ||| acc.getD j 0 ||| bits acc r
theorem bits_spec {acc : List Nat} {j : Nat} : ∀ {l : List Nat}, (bits acc l).testBit j = true → ∃ q ∈ l, j = q ∨ (acc.getD q 0).testBit j = true
  | [], h => by simp [bits] at h
  | q :: r, h => by
    unfold bits at h
    rw [Nat.testBit_or, Nat.testBit_or, Bool.or_eq_true, Bool.or_eq_true] at h
    rcases h with (h | h) | h
    · rw [Nat.testBit_two_pow] at h
      exact ⟨q, List.mem_cons_self, .inl (by simpa using (of_decide_eq_true h).symm)⟩
    · exact ⟨q, List.mem_cons_self, .inr h⟩
    · obtain ⟨q', h1, h2⟩ := bits_spec h
      exact ⟨q', List.mem_cons_of_mem _ h1, h2⟩
def ancs : List Oper → List Nat → List Nat
  | [], acc => acc
  | o :: os, acc => ancs os (acc ++ [bits acc (deps o)])
structure Lg where
  F : List Nat
  W : List Nat
def meet (a b : List Nat) : Bool := a.any fun x => b.contains x
/-- May two operations change places? Not, if the one looks at what the other writes. -/
def conf (ds : List (Option Nat)) (o1 o2 : Oper) (g1 g2 : Lg) : Bool :=
  meet o1.dst.toList (looks ds o2 ++ o2.dst.toList) || meet o2.dst.toList (looks ds o1) || meet g1.W (g2.F ++ g2.W) || meet g2.W g1.F
def okPairs (ds : List (Option Nat)) (an : List Nat) : Nat → List (Oper × Lg) → Bool
  | _, [] => true
  | i, x :: r => (r.zipIdx (i + 1)).all (fun y => !conf ds x.1 y.1.1 x.2 y.1.2 || (an.getD y.2 0).testBit i) && okPairs ds an (i + 1) r
def okD (ops : List Oper) (lg : List Lg) : Bool :=
  (ops.zipIdx.all fun p => (deps p.1).all fun j => decide (j < p.2)) && (ops.all fun o => match o.op with | .select .. => false | _ => true) && okPairs (ops.map (·.dst)) (ancs ops []) 0 (ops.zip lg)

theorem ancs_spec : ∀ (os : List Oper) (acc : List Nat) (L : Nat → Bool) (pre : List Oper), acc.length = pre.length → (∀ i, i < pre.length → ∀ j, (acc.getD i 0).testBit j = true → L i = true → L j = true) → (∀ (i : Nat) o, (pre ++ os)[i]? = some o → L i = true → ∀ j ∈ deps o, L j = true) →
    (∀ (i : Nat) o, os[i]? = some o → ∀ j ∈ deps o, j < pre.length + i) → ∀ i, i < (pre ++ os).length → ∀ j, ((ancs os acc).getD i 0).testBit j = true → L i = true → L j = true
  | [], acc, L, pre, hl, h1, h2, hb, i, hi, j, hj, hL => h1 i (by simpa using hi) j (by simpa [ancs] using hj) hL
  | o :: os, acc, L, pre, hl, h1, h2, hb, i, hi, j, hj, hL => by
    refine ancs_spec os (acc ++ [bits acc (deps o)]) L (pre ++ [o]) (by simp [hl]) (fun i hi j hj hL => ?_) (fun i x hx => h2 i x (by simpa using hx)) (fun i x hx j hj => by have := hb (i + 1) x (by simpa using hx) j hj; simp; omega) i (by simpa using hi) j (by simpa [ancs] using hj) hL
    by_cases hlt : i < pre.length
    · rw [List.getD_eq_getElem?_getD, List.getElem?_append_left (by omega), ← List.getD_eq_getElem?_getD] at hj
      exact h1 i hlt j hj hL
    · have hie : i = pre.length := by simp at hi; omega
      subst hie
      rw [List.getD_eq_getElem?_getD, List.getElem?_append_right (by omega), hl] at hj
      simp only [Nat.sub_self, List.getElem?_cons_zero, Option.getD_some] at hj
      obtain ⟨q, hq, hj⟩ := bits_spec hj
      have hq1 := h2 pre.length o (by simp) hL q hq
      rcases hj with rfl | hj
      · exact hq1
      · have hql := hb 0 o rfl q hq
        exact h1 q (by omega) j hj hq1
theorem okPairs_spec {ds : List (Option Nat)} {an : List Nat} : ∀ {l : List (Oper × Lg)} {k : Nat}, okPairs ds an k l = true → ∀ (i j : Nat) x y, i < j → l[i]? = some x → l[j]? = some y → conf ds x.1 y.1 x.2 y.2 = true → (an.getD (k + j) 0).testBit (k + i) = true
  | [], k, _, i, j, x, y, _, hi, _, _ => by simp at hi
  | z :: r, k, h, 0, j + 1, x, y, _, hi, hj, hc => by
    simp at hi; subst hi
    unfold okPairs at h
    rw [Bool.and_eq_true] at h
    have := List.all_eq_true.1 h.1 (y, k + 1 + j) (by rw [List.mem_iff_getElem?]; exact ⟨j, by rw [List.getElem?_zipIdx]; simp at hj; simp [hj]⟩)
    simp only [hc, Bool.not_true, Bool.false_or] at this
    rwa [show k + (j + 1) = k + 1 + j by omega, Nat.add_zero]
  | z :: r, k, h, i + 1, j + 1, x, y, hij, hi, hj, hc => by
    unfold okPairs at h
    rw [Bool.and_eq_true] at h
    have := okPairs_spec h.2 i j x y (by omega) (by simpa using hi) (by simpa using hj) hc
    rwa [show k + (i + 1) = k + 1 + i by omega, show k + (j + 1) = k + 1 + j by omega]
  | _ :: _, _, _, _, 0, _, _, h, _, _, _ => by omega
theorem meet_no {a b : List Nat} (h : meet a b = false) {x : Nat} (h1 : x ∈ a) (h2 : x ∈ b) : False := by
  unfold meet at h
  rw [List.any_eq_false] at h
  exact h x h1 (by simpa using h2)

/-- A call in a region that draws its order. -/
def CallD (P : Program) (N : Nat) (dst : Option Nat) (fv : AV) (args : List AV) (st : St) (K : List Nat → List Nat → St → Prop) : Prop :=
  ∃ g first caps cargs ch res ch' σ, fv = .v (.c (.fn (.func g) first caps)) ∧ Row P g cargs ch res ch' ∧ fitVs ch.length (fun i => σ.getD i 0) cargs (first.map capV ++ args ++ caps.map capV) ∧ covO (hlk st.hp) ch.length (fun i => σ.getD i 0) (ch.map some) σ ∧ σ.Nodup ∧
    ch'.length ≤ ch.length + 8 ∧ ch.length ≤ ch'.length ∧ dok N dst = true ∧ K σ ((wrs (nmap σ ch.length st.nx) 0 ch').map (·.1)) ((st.wr (wrs (nmap σ ch.length st.nx) 0 ch') 8).put dst (res.ren (nmap σ ch.length st.nx)))
/-- What is done in its order, with what was written and looked at. -/
def ARD (P : Program) (N : Nat) (ds : List (Option Nat)) : List Oper → St → List Lg → (St → List Lg → Prop) → Prop
  | [], st, lg, K => K st lg
  | o :: os, st, lg, K => AG (gd ds st o.guard)
      (match o.op with
       | .call ⟨.value f, args, _⟩ => CallD P N o.dst (evA (lk st.tm) f) (args.toList.map (evA (lk st.tm))) st (fun F W st' => ARD P N ds os st' (lg ++ [⟨F, W⟩]) K)
       | op => match aop P op (evA (lk st.tm)) (hlk st.hp) st.nx with
         | some r => dok N o.dst = true ∧ ARD P N ds os ((st.wr r.2.2 8).put o.dst r.1) (lg ++ [⟨r.2.1, r.2.2.map (·.1)⟩]) K
         | none => False)
      (dok N o.dst = true ∧ ARD P N ds os ((st.wr [] 8).put o.dst (.tup [])) (lg ++ [⟨[], []⟩]) K)

section
variable {P : Program} {N : Nat} {ds : List (Option Nat)} {os : List Oper} {st : St} {lg : List Lg} {K : St → List Lg → Prop}
theorem ARD_nil : ARD P N ds [] st lg K = K st lg := rfl
def OpD (P : Program) (N : Nat) (ds : List (Option Nat)) (dst : Option Nat) (st : St) (lg : List Lg) (os : List Oper) (r : Option (AV × List Nat × List (Nat × Option AO))) (K : St → List Lg → Prop) : Prop :=
  match r with
  | some r => dok N dst = true ∧ ARD P N ds os ((st.wr r.2.2 8).put dst r.1) (lg ++ [(⟨r.2.1, r.2.2.map Prod.fst⟩ : Lg)]) K
  | none => False
theorem OpD_some {dst : Option Nat} {v F W} : OpD P N ds dst st lg os (some (v, F, W)) K = (dok N dst = true ∧ ARD P N ds os ((st.wr W 8).put dst v) (lg ++ [(⟨F, W.map Prod.fst⟩ : Lg)]) K) := rfl
def AXD (P : Program) (N : Nat) (ds : List (Option Nat)) (dst : Option Nat) (op : Op) (st : St) (lg : List Lg) (os : List Oper) (K : St → List Lg → Prop) : Prop :=
  match op with
  | .call ⟨.value f, args, _⟩ => CallD P N dst (evA (lk st.tm) f) (args.toList.map (evA (lk st.tm))) st (fun F W st' => ARD P N ds os st' (lg ++ [(⟨F, W⟩ : Lg)]) K)
  | op => OpD P N ds dst st lg os (aop P op (evA (lk st.tm)) (hlk st.hp) st.nx) K
theorem ARD_cons {dst : Option Nat} {op : Op} {ty pos after} : ARD P N ds (⟨dst, op, ty, pos, after, none⟩ :: os) st lg K = AXD P N ds dst op st lg os K := rfl
def GXD (P : Program) (N : Nat) (ds : List (Option Nat)) (g : Option Bool) (dst : Option Nat) (op : Op) (st : St) (lg : List Lg) (os : List Oper) (K : St → List Lg → Prop) : Prop := AG g (AXD P N ds dst op st lg os K) (dok N dst = true ∧ ARD P N ds os ((st.wr [] 8).put dst (.tup [])) (lg ++ [(⟨[], []⟩ : Lg)]) K)
theorem ARD_gard {dst : Option Nat} {op : Op} {ty pos after g} : ARD P N ds (⟨dst, op, ty, pos, after, some g⟩ :: os) st lg K = GXD P N ds (gd ds st (some g)) dst op st lg os K := rfl
theorem GXD_yes {dst : Option Nat} {op : Op} : GXD P N ds (some true) dst op st lg os K = AXD P N ds dst op st lg os K := rfl
theorem GXD_not {dst : Option Nat} {op : Op} : GXD P N ds (some false) dst op st lg os K = (dok N dst = true ∧ ARD P N ds os ((st.wr [] 8).put dst (.tup [])) (lg ++ [(⟨[], []⟩ : Lg)]) K) := rfl
section
variable {dst : Option Nat}
theorem AXD_move {x} : AXD P N ds dst (.move x) st lg os K = OpD P N ds dst st lg os (aop P (.move x) (evA (lk st.tm)) (hlk st.hp) st.nx) K := rfl
theorem AXD_assign {x} : AXD P N ds dst (.assign x) st lg os K = OpD P N ds dst st lg os (aop P (.assign x) (evA (lk st.tm)) (hlk st.hp) st.nx) K := rfl
theorem AXD_pick {c a b} : AXD P N ds dst (.pick c a b) st lg os K = OpD P N ds dst st lg os (aop P (.pick c a b) (evA (lk st.tm)) (hlk st.hp) st.nx) K := rfl
theorem AXD_alloc {e} : AXD P N ds dst (.alloc e) st lg os K = OpD P N ds dst st lg os (aop P (.alloc e) (evA (lk st.tm)) (hlk st.hp) st.nx) K := rfl
theorem AXD_box {e v} : AXD P N ds dst (.box e v) st lg os K = OpD P N ds dst st lg os (aop P (.box e v) (evA (lk st.tm)) (hlk st.hp) st.nx) K := rfl
theorem AXD_build {t p} : AXD P N ds dst (.build t p) st lg os K = OpD P N ds dst st lg os (aop P (.build t p) (evA (lk st.tm)) (hlk st.hp) st.nx) K := rfl
theorem AXD_buildSlice {t n p} : AXD P N ds dst (.buildSlice t n p) st lg os K = OpD P N ds dst st lg os (aop P (.buildSlice t n p) (evA (lk st.tm)) (hlk st.hp) st.nx) K := rfl
theorem AXD_insert {t m k v} : AXD P N ds dst (.insert t m k v) st lg os K = OpD P N ds dst st lg os (aop P (.insert t m k v) (evA (lk st.tm)) (hlk st.hp) st.nx) K := rfl
theorem AXD_load {t a} : AXD P N ds dst (.load t a) st lg os K = OpD P N ds dst st lg os (aop P (.load t a) (evA (lk st.tm)) (hlk st.hp) st.nx) K := rfl
theorem AXD_store {t a v} : AXD P N ds dst (.store t a v) st lg os K = OpD P N ds dst st lg os (aop P (.store t a v) (evA (lk st.tm)) (hlk st.hp) st.nx) K := rfl
theorem AXD_ready {g} : AXD P N ds dst (.ready g) st lg os K = OpD P N ds dst st lg os (aop P (.ready g) (evA (lk st.tm)) (hlk st.hp) st.nx) K := rfl
theorem AXD_waits {g} : AXD P N ds dst (.waits g) st lg os K = OpD P N ds dst st lg os (aop P (.waits g) (evA (lk st.tm)) (hlk st.hp) st.nx) K := rfl
theorem AXD_nilCheck {x} : AXD P N ds dst (.nilCheck x) st lg os K = OpD P N ds dst st lg os (aop P (.nilCheck x) (evA (lk st.tm)) (hlk st.hp) st.nx) K := rfl
theorem AXD_binOp {o t x y u} : AXD P N ds dst (.binOp o t x y u) st lg os K = OpD P N ds dst st lg os (aop P (.binOp o t x y u) (evA (lk st.tm)) (hlk st.hp) st.nx) K := rfl
theorem AXD_unOp {o t x} : AXD P N ds dst (.unOp o t x) st lg os K = OpD P N ds dst st lg os (aop P (.unOp o t x) (evA (lk st.tm)) (hlk st.hp) st.nx) K := rfl
theorem AXD_convert {s d x} : AXD P N ds dst (.convert s d x) st lg os K = OpD P N ds dst st lg os (aop P (.convert s d x) (evA (lk st.tm)) (hlk st.hp) st.nx) K := rfl
theorem AXD_sliceToArrayPointer {d x} : AXD P N ds dst (.sliceToArrayPointer d x) st lg os K = OpD P N ds dst st lg os (aop P (.sliceToArrayPointer d x) (evA (lk st.tm)) (hlk st.hp) st.nx) K := rfl
theorem AXD_makeInterface {t x} : AXD P N ds dst (.makeInterface t x) st lg os K = OpD P N ds dst st lg os (aop P (.makeInterface t x) (evA (lk st.tm)) (hlk st.hp) st.nx) K := rfl
theorem AXD_makeFunc {f a b} : AXD P N ds dst (.makeFunc f a b) st lg os K = OpD P N ds dst st lg os (aop P (.makeFunc f a b) (evA (lk st.tm)) (hlk st.hp) st.nx) K := rfl
theorem AXD_makeMap {t r} : AXD P N ds dst (.makeMap t r) st lg os K = OpD P N ds dst st lg os (aop P (.makeMap t r) (evA (lk st.tm)) (hlk st.hp) st.nx) K := rfl
theorem AXD_makeChan {t z} : AXD P N ds dst (.makeChan t z) st lg os K = OpD P N ds dst st lg os (aop P (.makeChan t z) (evA (lk st.tm)) (hlk st.hp) st.nx) K := rfl
theorem AXD_makeSlice {t n c} : AXD P N ds dst (.makeSlice t n c) st lg os K = OpD P N ds dst st lg os (aop P (.makeSlice t n c) (evA (lk st.tm)) (hlk st.hp) st.nx) K := rfl
theorem AXD_slice {t x l h m} : AXD P N ds dst (.slice t x l h m) st lg os K = OpD P N ds dst st lg os (aop P (.slice t x l h m) (evA (lk st.tm)) (hlk st.hp) st.nx) K := rfl
theorem AXD_fieldAddr {t x f} : AXD P N ds dst (.fieldAddr t x f) st lg os K = OpD P N ds dst st lg os (aop P (.fieldAddr t x f) (evA (lk st.tm)) (hlk st.hp) st.nx) K := rfl
theorem AXD_field {t x f} : AXD P N ds dst (.field t x f) st lg os K = OpD P N ds dst st lg os (aop P (.field t x f) (evA (lk st.tm)) (hlk st.hp) st.nx) K := rfl
theorem AXD_indexAddr {t x i} : AXD P N ds dst (.indexAddr t x i) st lg os K = OpD P N ds dst st lg os (aop P (.indexAddr t x i) (evA (lk st.tm)) (hlk st.hp) st.nx) K := rfl
theorem AXD_index {t x i} : AXD P N ds dst (.index t x i) st lg os K = OpD P N ds dst st lg os (aop P (.index t x i) (evA (lk st.tm)) (hlk st.hp) st.nx) K := rfl
theorem AXD_lookup {t x i c} : AXD P N ds dst (.lookup t x i c) st lg os K = OpD P N ds dst st lg os (aop P (.lookup t x i c) (evA (lk st.tm)) (hlk st.hp) st.nx) K := rfl
theorem AXD_mapUpdate {t m k v} : AXD P N ds dst (.mapUpdate t m k v) st lg os K = OpD P N ds dst st lg os (aop P (.mapUpdate t m k v) (evA (lk st.tm)) (hlk st.hp) st.nx) K := rfl
theorem AXD_mapEntry {t m k} : AXD P N ds dst (.mapEntry t m k) st lg os K = OpD P N ds dst st lg os (aop P (.mapEntry t m k) (evA (lk st.tm)) (hlk st.hp) st.nx) K := rfl
theorem AXD_entryStore {t m a v} : AXD P N ds dst (.entryStore t m a v) st lg os K = OpD P N ds dst st lg os (aop P (.entryStore t m a v) (evA (lk st.tm)) (hlk st.hp) st.nx) K := rfl
theorem AXD_range {t x} : AXD P N ds dst (.range t x) st lg os K = OpD P N ds dst st lg os (aop P (.range t x) (evA (lk st.tm)) (hlk st.hp) st.nx) K := rfl
theorem AXD_next {i s} : AXD P N ds dst (.next i s) st lg os K = OpD P N ds dst st lg os (aop P (.next i s) (evA (lk st.tm)) (hlk st.hp) st.nx) K := rfl
theorem AXD_entry {i} : AXD P N ds dst (.entry i) st lg os K = OpD P N ds dst st lg os (aop P (.entry i) (evA (lk st.tm)) (hlk st.hp) st.nx) K := rfl
theorem AXD_typeAssert {x t a c} : AXD P N ds dst (.typeAssert x t a c) st lg os K = OpD P N ds dst st lg os (aop P (.typeAssert x t a c) (evA (lk st.tm)) (hlk st.hp) st.nx) K := rfl
theorem AXD_extract {t i} : AXD P N ds dst (.extract t i) st lg os K = OpD P N ds dst st lg os (aop P (.extract t i) (evA (lk st.tm)) (hlk st.hp) st.nx) K := rfl
theorem AXD_panic {x} : AXD P N ds dst (.panic x) st lg os K = OpD P N ds dst st lg os (aop P (.panic x) (evA (lk st.tm)) (hlk st.hp) st.nx) K := rfl
theorem AXD_builtin {b a t} : AXD P N ds dst (.call ⟨.builtin b, a, t⟩) st lg os K = OpD P N ds dst st lg os (aop P (.call ⟨.builtin b, a, t⟩) (evA (lk st.tm)) (hlk st.hp) st.nx) K := rfl
end
theorem ard_call {dst : Option Nat} {f : Operand} {args ats} (h : CallD P N dst (evA (lk st.tm) f) (args.toList.map (evA (lk st.tm))) st (fun F W st' => ARD P N ds os st' (lg ++ [(⟨F, W⟩ : Lg)]) K)) :
    AXD P N ds dst (.call ⟨.value f, args, ats⟩) st lg os K := h
end
section
variable {P : Program} {X : Ctx} {N : Nat}
/-- The operations in their order, each from what is there. -/
def Chain (P : Program) (N : Nat) (ds : List (Option Nat)) : List Itm → (Nat → AV) → (Nat → Option AO) → Nat → Prop
  | [], _, _, _ => True
  | x :: r, T, H, nm => gdF ds T x.o.guard = some x.d.x ∧ dok N x.o.dst = true ∧ (x.d.x = true → DStep P x.o T H nm x.d) ∧ (x.d.x = false → x.d.v = .tup [] ∧ x.d.F = [] ∧ x.d.W = []) ∧ Chain P N ds r (putT T x.o.dst x.d.v) (wrH H x.d.W) (nm + 8)
theorem lk_put (st : St) (dst : Option Nat) (v : AV) : lk (st.put dst v).tm = putT (lk st.tm) dst v := by
  cases dst with
  | none => rfl
  | some d => funext t; rfl
theorem hp_put (st : St) (dst : Option Nat) (v : AV) : (st.put dst v).hp = st.hp := by cases dst <;> rfl
theorem nx_put (st : St) (dst : Option Nat) (v : AV) : (st.put dst v).nx = st.nx := by cases dst <;> rfl
theorem gd_gdF (ds : List (Option Nat)) (st : St) (g : Option (Nat × Bool)) : gd ds st g = gdF ds (lk st.tm) g := rfl
theorem ard_chain {ds : List (Option Nat)} {K : St → List Lg → Prop} : ∀ (l : List Oper) (st : St) (lg : List Lg), ARD P N ds l st lg K →
    ∃ (its : List Itm) (st' : St), its.map (·.o) = l ∧ Chain P N ds its (lk st.tm) (hlk st.hp) st.nx ∧ lk st'.tm = TF (fun _ => true) 0 its (lk st.tm) ∧ hlk st'.hp = HF (fun _ => true) 0 its (hlk st.hp) ∧ st'.nx = st.nx + 8 * l.length ∧ K st' (lg ++ its.map fun x => ⟨x.d.F, x.d.W.map (·.1)⟩)
  | [], st, lg, h => ⟨[], st, rfl, trivial, rfl, rfl, by simp, by simpa [ARD] using h⟩
  | o :: os, st, lg, h => by
    have step : ∀ (d : Dat) (st1 : St), gdF ds (lk st.tm) o.guard = some d.x → dok N o.dst = true → (d.x = true → DStep P o (lk st.tm) (hlk st.hp) st.nx d) → (d.x = false → d.v = .tup [] ∧ d.F = [] ∧ d.W = []) → st1 = (st.wr d.W 8).put o.dst d.v → ARD P N ds os st1 (lg ++ [⟨d.F, d.W.map (·.1)⟩]) K →
        ∃ (its : List Itm) (st' : St), its.map (·.o) = o :: os ∧ Chain P N ds its (lk st.tm) (hlk st.hp) st.nx ∧ lk st'.tm = TF (fun _ => true) 0 its (lk st.tm) ∧ hlk st'.hp = HF (fun _ => true) 0 its (hlk st.hp) ∧ st'.nx = st.nx + 8 * (o :: os).length ∧ K st' (lg ++ its.map fun x => ⟨x.d.F, x.d.W.map (·.1)⟩) := fun d st1 h1 h2 h3 h4 h5 h6 => by
      obtain ⟨its, st', k1, k2, k3, k4, k5, k6⟩ := ard_chain os st1 _ h6
      have e1 : lk st1.tm = putT (lk st.tm) o.dst d.v := by rw [h5, lk_put]; rfl
      have e2 : hlk st1.hp = wrH (hlk st.hp) d.W := by rw [h5, hp_put]; exact hlk_wr d.W st.hp
      have e3 : st1.nx = st.nx + 8 := by rw [h5, nx_put]; rfl
      rw [e1, e2, e3] at k2
      rw [e1] at k3
      rw [e2] at k4
      have shT : ∀ (l : List Itm) (k : Nat) (T : Nat → AV), TF (fun _ => true) (k + 1) l T = TF (fun _ => true) k l T := fun l => by
        induction l with
        | nil => intro k T; rfl
        | cons a l ih => intro k T; unfold TF; rw [ih (k + 1)]
      have shH : ∀ (l : List Itm) (k : Nat) (T : Nat → Option AO), HF (fun _ => true) (k + 1) l T = HF (fun _ => true) k l T := fun l => by
        induction l with
        | nil => intro k T; rfl
        | cons a l ih => intro k T; unfold HF; rw [ih (k + 1)]
      refine ⟨⟨o, d⟩ :: its, st', by simp [k1], ⟨h1, h2, h3, h4, k2⟩, ?_, ?_, by rw [k5, e3]; simp; omega, by simpa using k6⟩
      · rw [k3]; show _ = TF (fun _ => true) (0 + 1) its (putT (lk st.tm) o.dst d.v); rw [shT]
      · rw [k4]; show _ = HF (fun _ => true) (0 + 1) its (wrH (hlk st.hp) d.W); rw [shH]
    unfold ARD at h
    cases hb : gd ds st o.guard with
    | none => rw [hb] at h; exact h.elim
    | some b =>
      rw [hb] at h
      have hb' : gdF ds (lk st.tm) o.guard = some b := hb
      cases b with
      | true =>
        have h : (match o.op with
          | .call ⟨.value f, args, _⟩ => CallD P N o.dst (evA (lk st.tm) f) (args.toList.map (evA (lk st.tm))) st (fun F W st' => ARD P N ds os st' (lg ++ [(⟨F, W⟩ : Lg)]) K)
          | op => match aop P op (evA (lk st.tm)) (hlk st.hp) st.nx with
            | some r => dok N o.dst = true ∧ ARD P N ds os ((St.wr st r.2.2 8).put o.dst r.1) (lg ++ [(⟨r.2.1, r.2.2.map (·.1)⟩ : Lg)]) K
            | none => False) := h
        split at h
        · rename_i f args ats hop
          obtain ⟨g, first, caps, cargs, ch, res, ch', σ, q1, q2, q3, q4, q5, q6, q7, q8, q9⟩ := h
          refine step ⟨true, res.ren (nmap σ ch.length st.nx), σ, wrs (nmap σ ch.length st.nx) 0 ch'⟩ _ hb' q8 (fun _ => ?_) (fun h => by cases h) rfl q9
          unfold DStep
          rw [hop]
          exact ⟨g, first, caps, cargs, ch, res, ch', σ, q1, q2, q3, q4, q5, q6, q7, rfl, rfl, rfl⟩
        · rename_i hne
          split at h
          · rename_i r hr
            refine step ⟨true, r.1, r.2.1, r.2.2⟩ _ hb' h.1 (fun _ => ?_) (fun h => by cases h) rfl h.2
            unfold DStep
            split
            · rename_i f args ats hop; exact (hne f args ats hop).elim
            · exact hr
          · exact h.elim
      | false =>
        obtain ⟨h1, h2⟩ : dok N o.dst = true ∧ _ := h
        exact step ⟨false, .tup [], [], []⟩ _ hb' h1 (fun h => by cases h) (fun _ => ⟨rfl, rfl, rfl⟩) rfl h2

theorem chain_at {ds : List (Option Nat)} : ∀ {its : List Itm} {T : Nat → AV} {H : Nat → Option AO} {nm k : Nat}, Chain P N ds its T H nm → ∀ (i : Nat) x, its[i]? = some x →
    gdF ds (TF (fun j => decide (j < k + i)) k its T) x.o.guard = some x.d.x ∧ dok N x.o.dst = true ∧ (x.d.x = true → DStep P x.o (TF (fun j => decide (j < k + i)) k its T) (HF (fun j => decide (j < k + i)) k its H) (nm + 8 * i) x.d) ∧ (x.d.x = false → x.d.v = .tup [] ∧ x.d.F = [] ∧ x.d.W = [])
  | [], T, H, nm, k, _, i, x, hi => by simp at hi
  | y :: r, T, H, nm, k, h, 0, x, hi => by
    simp at hi; subst hi
    obtain ⟨h1, h2, h3, h4, h5⟩ := h
    have nT : ∀ (l : List Itm) (m : Nat) (T : Nat → AV), k ≤ m → TF (fun j => decide (j < k + 0)) m l T = T := fun l => by
      induction l with
      | nil => intro m T _; rfl
      | cons a l ih => intro m T hm; unfold TF; rw [if_neg (by simp; omega), ih _ _ (by omega)]
    have nH : ∀ (l : List Itm) (m : Nat) (T : Nat → Option AO), k ≤ m → HF (fun j => decide (j < k + 0)) m l T = T := fun l => by
      induction l with
      | nil => intro m T _; rfl
      | cons a l ih => intro m T hm; unfold HF; rw [if_neg (by simp; omega), ih _ _ (by omega)]
    rw [nT _ _ _ (Nat.le_refl _), nH _ _ _ (Nat.le_refl _)]
    exact ⟨h1, h2, by simpa using h3, h4⟩
  | y :: r, T, H, nm, k, h, i + 1, x, hi => by
    obtain ⟨h1, h2, h3, h4, h5⟩ := h
    have := chain_at (k := k + 1) h5 i x (by simpa using hi)
    unfold TF HF
    rw [if_pos (by simp), if_pos (by simp)]
    rw [show k + (i + 1) = k + 1 + i by omega, show nm + 8 * (i + 1) = nm + 8 + 8 * i by omega]
    exact this
end

/-! How many are left -/
def cnt (L : Nat → Bool) : Nat → Nat
  | 0 => 0
  | k + 1 => cnt L k + if L k = true then 0 else 1
theorem cnt_zero {L : Nat → Bool} : ∀ {n : Nat}, cnt L n = 0 → ∀ i, i < n → L i = true
  | 0, _, i, hi => by omega
  | n + 1, h, i, hi => by
    unfold cnt at h
    by_cases hn : L n = true
    · rw [if_pos hn] at h
      rcases Nat.lt_succ_iff_lt_or_eq.1 hi with h1 | rfl
      · exact cnt_zero (by omega) i h1
      · exact hn
    · rw [if_neg hn] at h; omega
theorem cnt_set {L L' : Nat → Bool} {i : Nat} (hi : L i = false) (hi' : L' i = true) (ho : ∀ j, j ≠ i → L' j = L j) : ∀ {n : Nat}, i < n → cnt L' n + 1 = cnt L n
  | 0, h => by omega
  | n + 1, h => by
    unfold cnt
    by_cases hn : i = n
    · subst hn
      rw [if_pos hi', if_neg (by rw [hi]; simp)]
      have : ∀ m, m ≤ i → cnt L' m = cnt L m := fun m => by
        induction m with
        | zero => intro _; rfl
        | succ m ih => intro hm; unfold cnt; rw [ih (by omega), ho m (by omega)]
      rw [this i (Nat.le_refl _)]
    · rw [ho n (fun e => hn e.symm), ← cnt_set hi hi' ho (n := n) (by omega)]; omega
end Go.Proofs.Ythifckknijdgfaa.am
