import Derived.Test.YthmdllhhmhbhbaaGreatDoorPkR19
import Derived.Test.YthmdllhhmhbhbaaGreatDoorPkR14
import Derived.Test.YthmdllhhmhbhbaaGreatDoorPkR4
import Derived.Test.YthmdllhhmhbhbaaGreatDoorPkR18
import Derived.Test.YthmdllhhmhbhbaaGreatDoorPkR10
import Derived.Shelf.Strconv.Itoa0
import Derived.Shelf.Strconv.Itoa1
import Derived.Shelf.LaysM
import Derived.Shelf.Strconv.Itoa2
import Derived.Shelf.Strconv.Itoa3
import Derived.Shelf.Strconv.ParseIntEmpty
import Derived.Shelf.Strconv.Clone
import Derived.Shelf.Strconv.SyntaxError
import Derived.Shelf.LaysC
import Derived.Shelf.Strconv.ToError
import Derived.Shelf.Strconv.Lower
import Derived.Shelf.Strconv.ParseUint10
import Derived.Shelf.Strconv.ParseUint10Empty
import Derived.Shelf.Strconv.ParseUint10Any
import Derived.Shelf.Strconv.ParseInt10
import Derived.Shelf.Strconv.RangeError
import Derived.Shelf.Strconv.ToErrorRange
import Derived.Shelf.Strconv.ParseUintEmpty
import Derived.Shelf.Strconv.ParseUint10b64
import Derived.Shelf.Strconv.ParseUint10b32
import Derived.Shelf.Strconv.ParseUint10b16
import Derived.Shelf.Strconv.ParseUint10b8
import Derived.Shelf.Strconv.ParseUint10At
import Derived.Shelf.Strconv.ParseInt10At64
import Derived.Shelf.Strconv.ParseInt10At32
import Derived.Shelf.Strconv.ParseInt10At16
import Derived.Shelf.Strconv.ParseInt10At8
import Derived.Shelf.Strconv.ParseInt10All
import Derived.Shelf.Strconv.ParseIntPublic10
import Derived.Shelf.Strconv.ErrVarParseInt
import Derived.Test.YthmdllhhmhbhbaaGreatDoorProg
set_option maxRecDepth 100000
set_option maxHeartbeats 4000000
section
namespace Go.Proofs.YthmdllhhmhbhbaaGreatDoor.am
open Go.ChangeShapes Go.WideShapes Go.ChangeAt Go.RowKit
open vt
set_option linter.unusedVariables false
def labE (x : Lab) : te.Lab := ⟨x.k, x.n, x.s, x.f, x.t⟩
noncomputable def toE (t : VT) : te.VT := Tr.fold (fun x _ b => tr.Tr.mk (labE x) b) t
theorem b3z (x : Lab) (l : List VT) : toE (.mk x l) = .mk (labE x) (l.map toE) := Tr.fold_mk _ x l
theorem c1v (t : VT) : (toE t).size = t.size := by
  induction t using Tr.ind with
  | h x l ih =>
    rw [b3z, tr.Tr.size_mk, Tr.size_mk, List.map_map]
    congr 2
    exact List.map_congr_left (fun y hy => ih y hy)
section
variable {S : CS} {w : World} (hS : ∀ b o, S b o → b < w.heap.size)
include hS
theorem sl_out {l : List VT} {v : Value} (h : RepP S w v (.sl 6 (l.map tc))) : ∃ a c, v = .slice a l.length c ∧ l.length ≤ c ∧ c ≤ 9223372036854775807 ∧ (a = none → c = 0) ∧
    (l = [] ∨ ∃ b off, a = some ⟨b, off, none⟩ ∧ b < w.heap.size ∧ ∃ V : Nat → Nat → Value, ∀ i y, l[i]? = some y → ∀ j p, (tc y)[j]? = some p → w.cell? ⟨b, off + i * 6 + j, none⟩ = some (V i j) ∧ RepP S w (V i j) p) := by
  obtain ⟨L, hL⟩ : ∃ L, l.map tc = L := ⟨_, rfl⟩
  rw [hL] at h
  cases h with
  | emp a c es hm ha =>
    have : l = [] := by simpa using hL
    subst this
    exact ⟨a, c, rfl, Nat.zero_le _, hm, ha, .inl rfl⟩
  | sl b off n c es L' hlen h0 hc hm hes V hcell hV =>
    subst hL
    have hn : l.length = n := by simpa using hlen
    subst hn
    have at' : ∀ i y, l[i]? = some y → (l.map tc)[i]? = some (tc y) := fun i y h => by rw [List.getElem?_map, h]; rfl
    refine ⟨_, c, rfl, hc, hm, (fun h => by cases h), .inr ⟨b, off, rfl, ?_, V, fun i y hi j p hj => ⟨(hcell i _ j p (at' i y hi) hj).2, hV i _ j p (at' i y hi) hj⟩⟩⟩
    obtain ⟨y, hy⟩ : ∃ y, l[0]? = some y := ⟨_, List.getElem?_eq_getElem h0⟩
    obtain ⟨p, hp⟩ : ∃ p, (tc y)[0]? = some p := ⟨_, List.getElem?_eq_getElem (by rw [b8z]; decide)⟩
    exact hS _ _ (hcell 0 _ 0 p (at' 0 y hy) hp).1
theorem vs_of {l : List VT} {v : Value} (h : RepP S w v (.sl 6 (l.map tc))) (ih : ∀ y ∈ l, ∀ b o (V : Nat → Value), (∀ j p, (tc y)[j]? = some p → w.cell? ⟨b, o + j, none⟩ = some (V j) ∧ RepP S w (V j) p) → te.VA w b o (toE y)) : ∃ a c, v = .slice a l.length c ∧ te.VS w a l.length c (l.map toE) := by
  obtain ⟨a, c, h1, h2, h3, h4, h5⟩ := sl_out hS h
  refine ⟨a, c, h1, ⟨by simp, h2, h3, h4, ?_⟩⟩
  rcases h5 with h5 | ⟨b, off, h6, h7, V, h8⟩
  · left; rw [h5]; rfl
  · right
    refine ⟨b, off, h6, h7, fun i x hx => ?_⟩
    rw [List.getElem?_map] at hx
    obtain ⟨y, hy, rfl⟩ := Option.map_eq_some_iff.1 hx
    exact ih y (List.mem_of_getElem? hy) b (off + i * 6) (V i) (h8 i y hy)
omit hS in
theorem a36 {v : Value} {z : Int} (h : RepP S w v (I z)) : v = .int .i64 z := by cases h; rfl
omit hS in
theorem c3c {v : Value} {s : ByteArray} (h : RepP S w v (Sx s)) : v = .string s := by cases h; rfl
theorem va_of (t : VT) : p6 t → ∀ b o (V : Nat → Value), (∀ j p, (tc t)[j]? = some p → w.cell? ⟨b, o + j, none⟩ = some (V j) ∧ RepP S w (V j) p) → te.VA w b o (toE t) := by
  induction t using Tr.ind with
  | h x l ih =>
    intro ha b o V hc
    obtain ⟨⟨a1, a2, a3, a4⟩, ha⟩ := (Tr.all_mk _ _ _).1 ha
    rw [b80] at hc
    have c0 := hc 0 _ rfl
    have c1 := hc 1 _ rfl
    have c2 := hc 2 _ rfl
    have c3 := hc 3 _ rfl
    have c4 := hc 4 _ rfl
    have c5 := hc 5 _ rfl
    rw [a36 c0.2] at c0
    rw [a36 c1.2] at c1
    rw [c3c c2.2] at c2
    rw [a36 c4.2] at c4
    rw [a36 c5.2] at c5
    obtain ⟨a, c, h1, h2⟩ := vs_of hS c3.2 (fun y hy => ih y hy (ha y hy))
    rw [h1] at c3
    have := te.VA.intro (v := ⟨labE x, a, l.length, c, l.map toE⟩) (w := w) (b := b) (o := o) ⟨h2, ⟨a1, a2, a3, a4⟩⟩ ⟨c0.1, c3.1, c1.1, c2.1, c4.1, c5.1⟩
    rw [b3z]
    exact this
end
theorem vn_of {γ : Nat → G} {S : CS} {w : World} (hS : ∀ b o, S b o → b < w.heap.size) {t : VT} {v : Value} (ha : p6 t) (h : l8 γ S w v (vT t)) : ∃ n : te.Vn, v = n.val ∧ n.tr = toE t ∧ n.Rd w := by
  obtain ⟨x, l⟩ := t
  obtain ⟨⟨a1, a2, a3, a4⟩, ha⟩ := (Tr.all_mk _ _ _).1 ha
  obtain ⟨cs, rfl, hl, hc⟩ := h
  rw [ta_mk] at hl hc
  obtain ⟨v0, e0, r0⟩ := hc 0 _ rfl
  obtain ⟨v1, e1, r1⟩ := hc 1 _ rfl
  obtain ⟨v2, e2, r2⟩ := hc 2 _ rfl
  obtain ⟨v3, e3, r3⟩ := hc 3 _ rfl
  obtain ⟨v4, e4, r4⟩ := hc 4 _ rfl
  obtain ⟨v5, e5, r5⟩ := hc 5 _ rfl
  obtain rfl := a36 r0
  obtain rfl := a36 r1
  obtain rfl := c3c r2
  obtain rfl := a36 r4
  obtain rfl := a36 r5
  obtain ⟨a, c, rfl, h2⟩ := vs_of hS r3 (fun y hy => va_of hS y (ha y hy))
  refine ⟨⟨labE x, a, l.length, c, l.map toE⟩, ?_, (b3z x l).symm, ⟨h2, ⟨a1, a2, a3, a4⟩⟩⟩
  have : cs = #[.int .i64 x.k, .int .i64 x.n, .string x.s, .slice a l.length c, .int .i64 x.f, .int .i64 x.t] := by
    apply Array.ext_getElem?
    intro i
    have hg : ∀ i : Nat, cs[i]? = cs.toList[i]? := fun i => by rw [Array.getElem?_toList]
    rw [hg]
    match i with
    | 0 => rw [e0]; rfl
    | 1 => rw [e1]; rfl
    | 2 => rw [e2]; rfl
    | 3 => rw [e3]; rfl
    | 4 => rw [e4]; rfl
    | 5 => rw [e5]; rfl
    | i + 6 => rw [List.getElem?_eq_none (by rw [hl]; simp)]; rfl
  rw [this]
  rfl
end Go.Proofs.YthmdllhhmhbhbaaGreatDoor.am
end
section
namespace Go.Proofs.YthmdllhhmhbhbaaGreatDoor.vt
open Go.Proofs.YthmdllhhmhbhbaaGreatDoor.am
set_option linter.unusedVariables false
def I6 (z : Int) : Prop := -9223372036854775808 ≤ z ∧ z ≤ 9223372036854775807
instance (z : Int) : Decidable (I6 z) := by unfold I6; infer_instance
def A6 (x : Lab) : Prop := I6 x.k ∧ I6 x.n ∧ I6 x.f ∧ I6 x.t
noncomputable def dpt (t : VT) : Nat := Tr.fold (fun _ _ b => b.foldl max 0 + 1) t
theorem c2l (x : Lab) (l : List VT) : dpt (.mk x l) = (l.map dpt).foldl max 0 + 1 := Tr.fold_mk _ x l
def c08 (s : ByteArray) (l : List VT) : VT := .mk ⟨36, 0, ⟨#[]⟩, 0, s.size⟩ l
end Go.Proofs.YthmdllhhmhbhbaaGreatDoor.vt
end
section
namespace Go.Proofs.YthmdllhhmhbhbaaGreatDoor.am
open Go.ChangeShapes Go.WideShapes Go.ChangeAt Go.RowKit
open vt
set_option linter.unusedVariables false
theorem b85 (t : VT) : (toE t).depth = dpt t := by
  induction t using Tr.ind with
  | h x l ih =>
    rw [b3z, tr.Tr.depth_mk, c2l, List.map_map]
    congr 2
    exact List.map_congr_left (fun y hy => ih y hy)
theorem b46 (t : VT) (ha : Tr.all A6 t) (hs : t.size ≤ 100000) : Row Tryz.prog 49 [vT t] [] (vI (dpt t : Nat)) [] := by
  refine ⟨⟨_, Tryz.func49, rfl, rfl⟩, a3a (ch := []) fun γ S w vs hm hv => ?_⟩
  match vs, hv with
  | [v0], ⟨h0, _⟩ =>
    obtain ⟨n, rfl, hn, hr⟩ := vn_of hm.inb ha h0
    refine (te.depth_any n w hr (by rw [hn, c1v]; exact hs)).mono ?_
    rintro e w' ⟨rfl, hb⟩
    refine ⟨_, rfl, hb, ?_⟩
    rw [hn, b85]
    exact .lit _ rfl
end Go.Proofs.YthmdllhhmhbhbaaGreatDoor.am
end
section
namespace Go.Proofs.YthmdllhhmhbhbaaGreatDoor.am
open Go.ChangeShapes Go.WideShapes Go.ChangeAt Go.RowKit
open vt
set_option linter.unusedVariables false
set_option linter.unusedSimpArgs false
theorem td_unrd : td Tryz.prog 69 = some ⟨true, 3, 40, [.nilS, .lit (.int .i64 0), .lit (.int .i64 0)], [(0, 3, true)], .struct⟩ := Eq.trans (by kernel_rfl) (Eq.refl _)
attribute [simp] td_unrd
abbrev sV : ByteArray := ⟨#[118, 97, 114, 32, 97, 58, 32, 105, 110, 116, 59]⟩
abbrev sVa : ByteArray := ⟨#[97]⟩
abbrev sVi : ByteArray := ⟨#[105, 110, 116]⟩
abbrev sVv : ByteArray := ⟨#[118, 97, 114]⟩
theorem b0f {s : ByteArray} {i j k : Nat} {L : List lx.Tk} {x : lx.Tk} (h : lx.nx s i = j) (hj : j < s.size) (hi : i ≤ s.size) (ho : lx.on s j = (x, 0)) (hk : x.t.toNat = k) : lx.app L (lx.toks s i) = lx.app (L ++ [x]) (lx.toks s k) := by
  rw [lx.app_step (by rw [h]; exact hj) hi (by rw [h, ho]), h, ho, ← hk]
theorem c5q : lx.tokens sV = ([⟨3, 0, sVv, 0, 3⟩, ⟨1, 0, sVa, 4, 5⟩, ⟨4, 0, sCol, 5, 6⟩, ⟨3, 0, sVi, 7, 10⟩, ⟨4, 0, sEnd, 10, 11⟩, lx.tkEnd sV], 0, 0) := by
  have b : ∀ i : Nat, (i = 0 ∨ i = 4 ∨ i = 5 ∨ i = 7 ∨ i = 10) → lx.nx sV i = i := fun i hi => lx.nx_stop (by rcases hi with rfl | rfl | rfl | rfl | rfl <;> decide +kernel) (by rcases hi with rfl | rfl | rfl | rfl | rfl <;> decide +kernel)
  have n0 : lx.nx sV 0 = 0 := b 0 (by decide)
  have n3 : lx.nx sV 3 = 4 := by rw [lx.nx_blank (by decide) (by decide +kernel)]; exact b 4 (by decide)
  have n5 : lx.nx sV 5 = 5 := b 5 (by decide)
  have n6 : lx.nx sV 6 = 7 := by rw [lx.nx_blank (by decide) (by decide +kernel)]; exact b 7 (by decide)
  have n10 : lx.nx sV 10 = 10 := b 10 (by decide)
  have h : lx.app [] (lx.toks sV 0) = ([⟨3, 0, sVv, 0, 3⟩, ⟨1, 0, sVa, 4, 5⟩, ⟨4, 0, sCol, 5, 6⟩, ⟨3, 0, sVi, 7, 10⟩, ⟨4, 0, sEnd, 10, 11⟩, lx.tkEnd sV], 0, 0) :=
    (b0f (x := ⟨3, 0, sVv, 0, 3⟩) (k := 3) n0 (by decide) (by decide) (by kernel_rfl) rfl).trans
      ((b0f (x := ⟨1, 0, sVa, 4, 5⟩) (k := 5) n3 (by decide) (by decide) (by kernel_rfl) rfl).trans
      ((b0f (x := ⟨4, 0, sCol, 5, 6⟩) (k := 6) n5 (by decide) (by decide) (by kernel_rfl) rfl).trans
      ((b0f (x := ⟨3, 0, sVi, 7, 10⟩) (k := 10) n6 (by decide) (by decide) (by kernel_rfl) rfl).trans
      ((b0f (x := ⟨4, 0, sEnd, 10, 11⟩) (k := 11) n10 (by decide) (by decide) (by kernel_rfl) rfl).trans
      (lx.app_end (by rw [lx.nx_end (by decide)]; decide))))))
  rw [lx.app_nil] at h
  unfold lx.tokens
  rw [if_neg (by decide), h]
def tsV : List Tok := [⟨3, 0, sVv, 0, 3⟩, ⟨1, 0, sVa, 4, 5⟩, ⟨4, 0, sCol, 5, 6⟩, ⟨3, 0, sVi, 7, 10⟩, ⟨4, 0, sEnd, 10, 11⟩, ⟨5, 0, ⟨#[]⟩, 11, 11⟩]
theorem sv_tok : tokG sV = (tsV, 0, 0) := by
  unfold tokG
  rw [c5q]
  rfl
def tyV : VT := .mk ⟨1, 0, ⟨#[]⟩, 7, 10⟩ []
def ptV : VT := .mk ⟨34, 0, sVa, 4, 10⟩ [tyV]
def dcV : VT := .mk ⟨32, 0, sVa, 0, 11⟩ [tyV]
theorem tyV_eq : tyG tsV (tsV.length + 1) 3 = (tyV, 4, 0) := by
  have h : isK b9w (nxt tsV 3) = true := by decide +kernel
  rw [tyG, if_pos h]
  rfl
theorem b9d : Row Tryz.prog 124 [vR, vFg 125] [rd tsV 3 0] (vT tyV) [some (rd tsV 4 0)] := by
  have h := c2a tsV 3 (by decide) (by decide)
  rw [c4g, tyV_eq] at h
  exact b6q tsV (3, 0) 125 (fun _ => (tyV, 4, 0)) (fun _ => h)
theorem b74 : Row Tryz.prog 70 [vR] [rd tsV 1 0] (vT ptV) [some (rd tsV 4 0)] := by
  have p0 := a28 tsV 1 0
  have w1 := c05 tsV (by decide) (1, 0) 1 (by decide)
  have w2 := b4a tsV (by decide) (2, 0) sCol (by decide)
  have w3 := b9d
  have n := b3h tsV (by decide) (4, 0) 1 ⟨34, 0, sVa, 0, 0⟩ [tyV] (fun _ => by decide)
  rw [show KT tsV 1 (1, 0) = (⟨1, 0, sVa, 4, 5⟩, 2, 0) from rfl] at w1
  rw [show WT tsV sCol (2, 0) = (3, 0) from by decide +kernel] at w2
  rw [show NT tsV 1 34 0 sVa [tyV] (4, 0) = (ptV, 4, 0) from rfl] at n
  generalize tsV = ts at *
  unfold ptV tyV at *
  refine e8 Tryz.func70 rfl rfl (Nat.le_of_ble_eq_true rfl) ?_
  repeat' (first | refine d7 ?_ | refine b9 ?_ | refine a8 ?_ | refine b8 ?_ | refine f7 rfl ?_ | refine f6 rfl ?_ | ((first | refine d6 (fun K hK => ?_) | refine d8 f8 (fun K hK => ?_) | refine b7 (cb p0 0 ?_) | refine a6 (db p0 0 ?_) | refine b7 (cb w1 0 ?_) | refine a6 (db w1 0 ?_) | refine b7 (cb w2 0 ?_) | refine a6 (db w2 0 ?_) | refine b7 (cb w3 0 ?_) | refine a6 (db w3 0 ?_) | refine b7 (cb n 0 ?_) | refine a6 (db n 0 ?_) | fail); simp -implicitDefEqProofs) | refine hK _ ?_ | refine hK _ _ (by rfl) ?_ | fail)
  refine e7 (i8 ?_); simp -implicitDefEqProofs [x7, g7, g9] <;> try rfl
theorem b61 : Row Tryz.prog 47 [vR] [rd tsV 0 0] (vT dcV) [some (rd tsV 5 0)] := by
  have p0 := a28 tsV 0 0
  have t1 := b3x tsV (0, 0) ⟨#[114, 101, 99]⟩ (by decide) (by decide +kernel)
  have t2 := b3x tsV (0, 0) ⟨#[99, 111, 110, 115, 116]⟩ (by decide) (by decide +kernel)
  have t3 := b8y tsV (by decide) (0, 0) sVv (by decide) (by decide +kernel)
  have d := b74
  have w := b4a tsV (by decide) (4, 0) sEnd (by decide)
  have n := b3h tsV (by decide) (5, 0) 0 ⟨32, 0, sVa, 0, 0⟩ [tyV] (fun _ => by decide)
  rw [show WT tsV sEnd (4, 0) = (5, 0) from by decide +kernel] at w
  rw [show NT tsV 0 32 0 sVa [tyV] (5, 0) = (dcV, 5, 0) from rfl] at n
  generalize tsV = ts at *
  unfold ptV dcV tyV at *
  refine e8 Tryz.func47 rfl rfl (Nat.le_of_ble_eq_true rfl) ?_
  repeat' (first | refine d7 ?_ | refine b9 ?_ | refine a8 ?_ | refine b8 ?_ | refine f7 rfl ?_ | refine f6 rfl ?_ | ((first | refine d6 (fun K hK => ?_) | refine d8 f8 (fun K hK => ?_) | refine b7 (cb p0 0 ?_) | refine a6 (db p0 0 ?_) | refine b7 (cb t1 0 ?_) | refine a6 (db t1 0 ?_) | refine b7 (cb t2 0 ?_) | refine a6 (db t2 0 ?_) | refine b7 (cb t3 0 ?_) | refine a6 (db t3 0 ?_) | refine b7 (cb d 0 ?_) | refine a6 (db d 0 ?_) | refine b7 (cb w 0 ?_) | refine a6 (db w 0 ?_) | refine b7 (cb n 0 ?_) | refine a6 (db n 0 ?_) | fail); simp -implicitDefEqProofs) | refine hK _ ?_ | refine hK _ _ (by rfl) ?_ | fail)
  refine e7 (i8 ?_); simp -implicitDefEqProofs [x7, g7, g9] <;> try rfl
def InvV (x : Nat × Nat × List VT) : Prop := x = (1, 0, []) ∨ x = (0, 5, [dcV])
theorem depV : dpt (c08 sV [dcV]) = 3 := by simp [c08, dcV, tyV, c2l]
theorem b45 (L : List (Nat × Array Value)) (tk : Row Tryz.prog 43 [vS sV] [.lib L] (vTk (tokG sV)) [some (.lib L)]) : Row Tryz.prog 31 [vS sV] [.lib L] (vT3i (c08 sV [dcV], 0, 0)) [some (.lib L)] := by
  rw [sv_tok] at tk
  have nw : Row Tryz.prog 44 [vKs tsV, vI 0] [] (vRd tsV 0 0) [] := b7x tsV 0 (Nat.zero_le _)
  have dep := b46 (c08 sV [dcV]) (by
    refine (Tr.all_mk _ _ _).2 ⟨⟨by decide, by decide, by decide, by decide⟩, fun y hy => ?_⟩
    simp at hy; subst hy
    refine (Tr.all_mk _ _ _).2 ⟨⟨by decide, by decide, by decide, by decide⟩, fun y hy => ?_⟩
    simp at hy; subst hy
    exact (Tr.all_mk _ _ _).2 ⟨⟨by decide, by decide, by decide, by decide⟩, fun y hy => by simp at hy⟩) (by simp [c08, dcV, tyV, Tr.size_mk])
  rw [depV] at dep
  have h0 : InvV (1, 0, []) := .inl rfl
  have g0 := u9 tsV 0 0
  have n0 := a24 tsV 0 0
  have d0 := b61
  have g5 := u9 tsV 5 0
  have n5 := a24 tsV 5 0
  rw [show nxt tsV 0 = ⟨3, 0, sVv, 0, 3⟩ from rfl] at n0
  rw [show nxt tsV 5 = ⟨5, 0, ⟨#[]⟩, 11, 11⟩ from rfl] at n5
  unfold InvV at h0
  generalize tsV = ts at *
  unfold c08 at dep ⊢
  refine e8 Tryz.func31 rfl rfl (Nat.le_of_ble_eq_true rfl) ?_
  repeat' (first | refine d7 ?_ | refine b9 ?_ | refine a8 ?_ | refine b8 ?_ | refine f7 rfl ?_ | refine f6 rfl ?_ | ((first | refine d6 (fun K hK => ?_) | refine d8 f8 (fun K hK => ?_) | refine b7 (cb tk 0 ?_) | refine a6 (db tk 0 ?_) | refine b7 (cp nw ?_) | refine a6 (dp nw ?_) | fail); simp -implicitDefEqProofs) | refine hK _ ?_ | refine hK _ _ (by rfl) ?_ | fail)
  refine a3k 44 3 _ 24 6 rfl rfl (show 44 < 46 by decide) ?_
  dsimp only [St.nilc, List.set]
  refine v7 (ι := Nat × Nat × List VT) (fun x => a0w [(2, .v (.c (.ptr 1 0))), (3, vI 0), (4, vI 0), (10, .v (.c (.ptr 2 0))), (11, .v (.c (.ptr 3 0)))] [some (.lib L), some zTb, some (rd ts x.2.1 0), some (.box [.pv (I 36), .pv (I 0), .pv (Sx ⟨#[]⟩), .row 4 6 (x.2.2.map tc), .pv (I 0), .pv (I sV.size)]), some (.row 24 6)]) (fun x => x = (1, 0, []) ∨ x = (0, 5, [dcV])) (fun x => x.1) (1, 0, []) h0 (i6 [0, 1, 39, 44, 46] (by simp -implicitDefEqProofs) (by simp -implicitDefEqProofs) (by decide) rfl (by simp)) (fun Z hI x hx => ?_)
  clear h0 tk nw
  rcases hx with rfl | rfl
  · repeat' (first | refine d7 ?_ | refine b9 ?_ | refine a8 ?_ | refine b8 ?_ | refine f7 rfl ?_ | refine f6 rfl ?_ | ((first | refine d6 (fun K hK => ?_) | refine d8 f8 (fun K hK => ?_) | refine b7 (cb g0 2 ?_) | refine a6 (db g0 2 ?_) | refine b7 (cb n0 2 ?_) | refine a6 (db n0 2 ?_) | refine b7 (cb d0 2 ?_) | refine a6 (db d0 2 ?_) | fail); simp -implicitDefEqProofs) | refine hK _ ?_ | refine hK _ _ (by rfl) ?_ | fail)
    refine ⟨(_, _, _), .inr rfl, (by dsimp only; omega), ?_⟩; rw [hI]; exact i6 [0, 1, 2, 3, 71] (by simp -implicitDefEqProofs) (by simp -implicitDefEqProofs) (by decide) rfl (by simp)
  · repeat' (first | refine d7 ?_ | refine b9 ?_ | refine a8 ?_ | refine b8 ?_ | refine f7 rfl ?_ | refine f6 rfl ?_ | ((first | refine d6 (fun K hK => ?_) | refine d8 f8 (fun K hK => ?_) | refine b7 (cb g5 2 ?_) | refine a6 (db g5 2 ?_) | refine b7 (cb n5 2 ?_) | refine a6 (db n5 2 ?_) | refine b7 (cp dep ?_) | refine a6 (dp dep ?_) | fail); simp -implicitDefEqProofs) | refine hK _ ?_ | refine hK _ _ (by rfl) ?_ | fail)
    refine e7 (i8 ?_); simp -implicitDefEqProofs [x7, g7, g9] <;> try rfl
end Go.Proofs.YthmdllhhmhbhbaaGreatDoor.am
end
section
namespace Go.Proofs
open Go.Shelf
def Tryz.laysC174_ren : Go.Shelf.Ren := ⟨fun | 174 => 159 | 247 => 173 | 245 => 174 | 287 => 180 | 279 => 181 | 280 => 182 | 281 => 183 | 282 => 184 | 321 => 186 | 322 => 187 | 316 => 188 | 171 => 190 | 205 => 189 | 243 => 197 | 246 => 199 | 283 => 201 | 284 => 202 | 285 => 203 | 286 => 204 | 129 => 207 | 317 => 206 | 318 => 208 | 319 => 209 | 320 => 210 | 337 => 212 | 338 => 213 | n => n, fun | 9 => 9 | 3 => 3 | 2 => 2 | 75 => 149 | 85 => 150 | 4 => 4 | 167 => 171 | 5 => 5 | 53 => 172 | 175 => 173 | 46 => 175 | 168 => 176 | 37 => 181 | 0 => 0 | 210 => 184 | 21 => 21 | 127 => 187 | 145 => 190 | 143 => 188 | 171 => 192 | 173 => 195 | 212 => 198 | 51 => 199 | 20 => 20 | 213 => 200 | 232 => 206 | 233 => 207 | 80 => 210 | n => n, fun | 15 => 0 | 16 => 1 | 17 => 2 | 18 => 3 | 19 => 4 | n => n⟩
theorem Tryz.laysC174 : Go.Proofs.LaysC.n174 Tryz.prog Tryz.laysC174_ren := {
  mixed := by kernel_rfl
  f129 := Tryz.func207.trans (congrArg some (by kernel_rfl))
  f171 := Tryz.func190.trans (congrArg some (by kernel_rfl))
  f174 := Tryz.func159.trans (congrArg some (by kernel_rfl))
  f205 := Tryz.func189.trans (congrArg some (by kernel_rfl))
  f243 := Tryz.func197.trans (congrArg some (by kernel_rfl))
  f245 := Tryz.func174.trans (congrArg some (by kernel_rfl))
  f246 := Tryz.func199.trans (congrArg some (by kernel_rfl))
  f247 := Tryz.func173.trans (congrArg some (by kernel_rfl))
  f279 := Tryz.func181.trans (congrArg some (by kernel_rfl))
  f280 := Tryz.func182.trans (congrArg some (by kernel_rfl))
  f281 := Tryz.func183.trans (congrArg some (by kernel_rfl))
  f282 := Tryz.func184.trans (congrArg some (by kernel_rfl))
  f283 := Tryz.func201.trans (congrArg some (by kernel_rfl))
  f284 := Tryz.func202.trans (congrArg some (by kernel_rfl))
  f285 := Tryz.func203.trans (congrArg some (by kernel_rfl))
  f286 := Tryz.func204.trans (congrArg some (by kernel_rfl))
  f287 := Tryz.func180.trans (congrArg some (by kernel_rfl))
  f316 := Tryz.func188.trans (congrArg some (by kernel_rfl))
  f317 := Tryz.func206.trans (congrArg some (by kernel_rfl))
  f318 := Tryz.func208.trans (congrArg some (by kernel_rfl))
  f319 := Tryz.func209.trans (congrArg some (by kernel_rfl))
  f320 := Tryz.func210.trans (congrArg some (by kernel_rfl))
  f321 := Tryz.func186.trans (congrArg some (by kernel_rfl))
  f322 := Tryz.func187.trans (congrArg some (by kernel_rfl))
  f337 := Tryz.func212.trans (congrArg some (by kernel_rfl))
  f338 := Tryz.func213.trans (congrArg some (by kernel_rfl))
  t0 := Tryz.underlying0
  a0 := Tryz.isAgg0
  z0 := Tryz.sizeOf0
  v0 := Tryz.zeroValue0
  t2 := Tryz.underlying2
  a2 := Tryz.isAgg2
  z2 := Tryz.sizeOf2
  v2 := Tryz.zeroValue2
  t3 := Tryz.underlying3
  a3 := Tryz.isAgg3
  z3 := Tryz.sizeOf3
  v3 := Tryz.zeroValue3
  t4 := Tryz.underlying4
  a4 := Tryz.isAgg4
  z4 := Tryz.sizeOf4
  v4 := Tryz.zeroValue4
  t5 := Tryz.underlying5
  a5 := Tryz.isAgg5
  z5 := Tryz.sizeOf5
  v5 := Tryz.zeroValue5
  t9 := Tryz.underlying9
  a9 := Tryz.isAgg9
  z9 := Tryz.sizeOf9
  v9 := Tryz.zeroValue9
  t20 := Tryz.underlying20
  a20 := Tryz.isAgg20
  z20 := Tryz.sizeOf20
  v20 := Tryz.zeroValue20
  t21 := Tryz.underlying21
  a21 := Tryz.isAgg21
  z21 := Tryz.sizeOf21
  v21 := Tryz.zeroValue21
  t37 := Tryz.underlying181
  a37 := Tryz.isAgg181
  z37 := Tryz.sizeOf181
  v37 := Tryz.zeroValue181
  t46 := Tryz.underlying175
  a46 := Tryz.isAgg175
  z46 := Tryz.sizeOf175
  v46 := Tryz.zeroValue175
  t51 := Tryz.underlying199
  a51 := Tryz.isAgg199
  z51 := Tryz.sizeOf199
  v51 := Tryz.zeroValue199
  t53 := Tryz.underlying172
  a53 := Tryz.isAgg172
  z53 := Tryz.sizeOf172
  v53 := Tryz.zeroValue172
  t75 := Tryz.underlying149
  a75 := Tryz.isAgg149
  z75 := Tryz.sizeOf149
  v75 := Tryz.zeroValue149
  t85 := Tryz.underlying150
  a85 := Tryz.isAgg150
  z85 := Tryz.sizeOf150
  v85 := Tryz.zeroValue150
  t127 := Tryz.underlying187
  a127 := Tryz.isAgg187
  z127 := Tryz.sizeOf187
  v127 := Tryz.zeroValue187
  t143 := Tryz.underlying188
  a143 := Tryz.isAgg188
  z143 := Tryz.sizeOf188
  v143 := Tryz.zeroValue188
  t145 := Tryz.underlying190
  a145 := Tryz.isAgg190
  z145 := Tryz.sizeOf190
  v145 := Tryz.zeroValue190
  t167 := Tryz.underlying171
  a167 := Tryz.isAgg171
  z167 := Tryz.sizeOf171
  v167 := Tryz.zeroValue171
  t168 := Tryz.underlying176
  a168 := Tryz.isAgg176
  z168 := Tryz.sizeOf176
  v168 := Tryz.zeroValue176
  t171 := Tryz.underlying192
  a171 := Tryz.isAgg192
  z171 := Tryz.sizeOf192
  v171 := Tryz.zeroValue192
  t173 := Tryz.underlying195
  a173 := Tryz.isAgg195
  z173 := Tryz.sizeOf195
  v173 := Tryz.zeroValue195
  t175 := Tryz.underlying173
  a175 := Tryz.isAgg173
  z175 := Tryz.sizeOf173
  v175 := Tryz.zeroValue173
  t210 := Tryz.underlying184
  a210 := Tryz.isAgg184
  z210 := Tryz.sizeOf184
  v210 := Tryz.zeroValue184
  t212 := Tryz.underlying198
  a212 := Tryz.isAgg198
  z212 := Tryz.sizeOf198
  v212 := Tryz.zeroValue198
  t213 := Tryz.underlying200
  a213 := Tryz.isAgg200
  z213 := Tryz.sizeOf200
  t232 := Tryz.underlying206
  a232 := Tryz.isAgg206
  z232 := Tryz.sizeOf206
  v232 := Tryz.zeroValue206
  t233 := Tryz.underlying207
  a233 := Tryz.isAgg207
  z233 := Tryz.sizeOf207
  v233 := Tryz.zeroValue207
  g15 := by kernel_rfl
  g16 := by kernel_rfl
  g17 := by kernel_rfl
  g18 := by kernel_rfl
  g19 := by kernel_rfl
  t80 := Tryz.underlying210
  a80 := Tryz.isAgg210
  z80 := Tryz.sizeOf210
  v80 := Tryz.zeroValue210
  i0 := by kernel_rfl
  i2 := by kernel_rfl
  i3 := by kernel_rfl
  i4 := by kernel_rfl
  i5 := by kernel_rfl
  i9 := by kernel_rfl
  i20 := by kernel_rfl
  i21 := by kernel_rfl
  i37 := by kernel_rfl
  i46 := by kernel_rfl
  i51 := by kernel_rfl
  i53 := by kernel_rfl
  i75 := by kernel_rfl
  i80 := by kernel_rfl
  i85 := by kernel_rfl
  i127 := by kernel_rfl
  i143 := by kernel_rfl
  i145 := by kernel_rfl
  i167 := by kernel_rfl
  i168 := by kernel_rfl
  i171 := by kernel_rfl
  i173 := by kernel_rfl
  i175 := by kernel_rfl
  i210 := by kernel_rfl
  i212 := by kernel_rfl
  i232 := by kernel_rfl
  i233 := by kernel_rfl
  m15 := by kernel_rfl
  m16 := by kernel_rfl
  m17 := by kernel_rfl
  m18 := by kernel_rfl
  m19 := by kernel_rfl
  c0 := by kernel_rfl
  c2 := by kernel_rfl
  c3 := by kernel_rfl
  c4 := by kernel_rfl
  c5 := by kernel_rfl
  c9 := by kernel_rfl
  c20 := by kernel_rfl
  c21 := by kernel_rfl
  c37 := by kernel_rfl
  c46 := by kernel_rfl
  c51 := by kernel_rfl
  c53 := by kernel_rfl
  c75 := by kernel_rfl
  c80 := by kernel_rfl
  c85 := by kernel_rfl
  c127 := by kernel_rfl
  c143 := by kernel_rfl
  c145 := by kernel_rfl
  c167 := by kernel_rfl
  c168 := by kernel_rfl
  c171 := by kernel_rfl
  c173 := by kernel_rfl
  c175 := by kernel_rfl
  c210 := by kernel_rfl
  c212 := by kernel_rfl
  c213 := by kernel_rfl
  c232 := by kernel_rfl
  c233 := by kernel_rfl }
open Go.RowKit in
theorem Tryz.strconv_ParseInt_10_at64_ok (s : ByteArray) (hmax : s.size ≤ 9223372036854775806) (v : Int) (h : Lib.parseIntB 64 s.data.toList = .ok v) (w : World) :
    Calls Tryz.prog 159 #[.string s, .int .i64 10, .int .i64 64] w fun e w' => e = .returned (.tuple #[.int .i64 v, .nilIface]) ∧ (w' = w ∨ ∃ t, w' = Lib.bytesWorld w 5 t) := Any.strconv_ParseInt_10_at64_ok Tryz.laysC174 s hmax v h w
open Go.RowKit in
theorem Tryz.strconv_ParseInt_10_at64_range_var (s : ByteArray) (hlim : s.size ≤ 281474976710656) (h : Lib.parseIntB 64 s.data.toList = .range) (tp : TypeId) (p : Value) (w : World) (hvar : w.var? Tryz.prog "strconv.ErrRange" = some #[.iface tp p]) :
    Calls Tryz.prog 159 #[.string s, .int .i64 10, .int .i64 64] w fun e w' => ∃ N, e = .returned (.tuple #[.int .i64 (Lib.intSat 64 s.data.toList), .iface 176 (.pointer (some ⟨N, 0, none⟩))]) ∧ w.heap.size ≤ N ∧ w'.heap[N]? = some (.cells #[.string ⟨#[80, 97, 114, 115, 101, 73, 110, 116]⟩, .string s, .iface tp p] 184 (0, 0)) ∧ Below w.heap.size w w' := Any.strconv_ParseInt_10_at64_range_var Tryz.laysC174 s hlim h tp p w hvar
end Go.Proofs
end
