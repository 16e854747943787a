import Derived.Test.YtbbkmijkllgfaaaGreatDoorPkL20
import Derived.Test.YtbbkmijkllgfaaaGreatDoorPkL17
import Derived.Test.YtbbkmijkllgfaaaGreatDoorPkL4
import Derived.Test.YtbbkmijkllgfaaaGreatDoorPkL19
import Derived.Test.YtbbkmijkllgfaaaGreatDoorPkL11
import Derived.Shelf.Strconv.Itoa0
import Derived.Shelf.Strconv.Itoa1
import Derived.Shelf.LaysM
import Derived.Shelf.Strconv.Itoa2
import Derived.Shelf.Strconv.Itoa3
import Derived.Shelf.Strconv.ParseIntEmpty
import Derived.Shelf.Strconv.Clone
import Derived.Shelf.Strconv.SyntaxError
import Derived.Shelf.LaysC
import Derived.Shelf.Strconv.ToError
import Derived.Shelf.Strconv.Lower
import Derived.Shelf.Strconv.ParseUint10
import Derived.Shelf.Strconv.ParseUint10Empty
import Derived.Shelf.Strconv.ParseUint10Any
import Derived.Shelf.Strconv.ParseInt10
import Derived.Shelf.Strconv.RangeError
import Derived.Shelf.Strconv.ToErrorRange
import Derived.Shelf.Strconv.ParseUintEmpty
import Derived.Shelf.Strconv.ParseUint10b64
import Derived.Shelf.Strconv.ParseUint10b32
import Derived.Shelf.Strconv.ParseUint10b16
import Derived.Shelf.Strconv.ParseUint10b8
import Derived.Shelf.Strconv.ParseUint10At
import Derived.Shelf.Strconv.ParseInt10At64
import Derived.Shelf.Strconv.ParseInt10At32
import Derived.Shelf.Strconv.ParseInt10At16
import Derived.Shelf.Strconv.ParseInt10At8
import Derived.Shelf.Strconv.ParseInt10All
import Derived.Shelf.Strconv.ParseIntPublic10
import Derived.Shelf.Strconv.ErrVarParseInt
import Derived.Test.YtbbkmijkllgfaaaGreatDoorProg
set_option maxRecDepth 100000
set_option maxHeartbeats 4000000
section
namespace Go.Proofs.YtbbkmijkllgfaaaGreatDoor.td
open Go.ChangeShapes Go.WideShapes Go.ChangeAt Go.RowKit
open bs tr te
set_option linter.unusedVariables false
theorem b4h (w : World) (tb N : Nat) (d s : Value) (pa : Option Addr) (n c : Nat) (h : Blk w tb #[d, .int .i64 N, s] 108) (hN : N ≤ 1000000) (hn : n ≤ 1000000) : Calls Tryz.prog 71 #[.pointer (some ⟨tb, 0, none⟩), .slice pa n c] w
    fun e w' => e = .returned (.tuple #[]) ∧ Blk w' tb #[d, .int .i64 ((max N (n + 1) : Nat) : Int), s] 108 ∧ Only w w' tb := by
  have c0 := h.cell 1; have f0 := h.free 1
  simp at c0
  have hw : IntKind.i64.wrap ((n : Int) + 1) = ((n + 1 : Nat) : Int) := by rw [IntWalk.i64_in _ (by omega)]; omega
  have hq : (if (N : Int) < ((n : Int) + 1) then ((n : Int) + 1) else (N : Int)) = ((max N (n + 1) : Nat) : Int) := by split <;> omega
  have hq2 : max (N : Int) ((n : Int) + 1) = ((max N (n + 1) : Nat) : Int) := by omega
  have H := Lib.hid h
  clear h
  go_enter Tryz.func71, Tryz.ntmps71
  go_wp2
  go_end0
  refine ⟨rfl, ?_, a4u _ _ _ _⟩
  have := H.out.set 1 (.int .i64 ((max N (n + 1) : Nat) : Int))
  simpa using this
theorem mx_lt {x : Lab} {l : List VT} (k : Nat) : mx l k + 1 ≤ Tr.size (Tr.mk x l) := by
  have h : mx l k ≤ Tr.size (Tr.mk x l) - 1 := by
    unfold mx
    refine a3f _ _ _ (Nat.zero_le _) (fun y hy => ?_)
    rw [List.mem_map] at hy
    obtain ⟨z, hz, rfl⟩ := hy
    have h1 := c1f z
    have h2 := Tr.size_le (x := x) (List.mem_of_mem_take hz)
    omega
  have := Tr.size_pos (Tr.mk x l)
  omega
def WP (t : VT) (tb N : Nat) (d s : Value) (pa : Option Addr) (n : Nat) (p : List Int) (w : World) (e : Ending) (w' : World) : Prop :=
  ∃ (a : Option Addr) (c : Nat), e = .returned (.slice a n c) ∧ OwnI w' (tb + 1) 3 a n c p ∧ Blk w' tb #[d, .int .i64 ((max N (n + t.depth) : Nat) : Int), s] 108 ∧ Turned w w' tb (g9 pa) ∧ (g9 a = g9 pa ∨ ∃ g, g9 a = some g ∧ w.heap.size ≤ g)
theorem kpB {w w' : World} {tb B : Nat} {row : Option Nat} (h : Turned w w' tb row) (hB : B ≤ tb) (hr : ∀ g, row = some g → B ≤ g) : Kp (· < B) w w' :=
  ⟨h.size, fun b hb hl => h.block b hl (by omega) (fun e => by have := hr b e; omega)⟩
structure ApR (V0 w2 : World) (tb g8 : Nat) (x : Vn) (M : Int) (d s : Value) (a a2 : Option Addr) (n c2 : Nat) (q : List Int) : Prop where
  own : OwnI w2 (tb + 1) 3 a2 n c2 q
  turned : Turned V0 w2 tb (g9 a)
  x8 : VB w2 g8 x
  blk : Blk w2 tb #[d, .int .i64 M, s] 108
  lies : g9 a2 = g9 a ∨ ∃ g, g9 a2 = some g ∧ V0.heap.size ≤ g
theorem b0r {V0 X w2 : World} {tb g8 : Nat} {x : Vn} {M : Int} {d s : Value} {a a2 : Option Addr} {n c2 : Nat} {q : List Int} (hX : Below V0.heap.size V0 X) (h8 : VB V0 g8 x) (hb : Blk V0 tb #[d, .int .i64 M, s] 108) (hPa : ∀ i, g9 a = some i → tb + 1 ≤ i ∧ i < g8)
    (ho : OwnI w2 (tb + 1) 3 a2 n c2 q) (hg : X.grownBy w2 (g9 a)) (hl : g9 a2 = g9 a ∨ g9 a2 = some X.heap.size) : ApR V0 w2 tb g8 x M d s a a2 n c2 q := by
  refine ⟨ho, (Turned.of_below hX tb (g9 a)).trans (Turned.of_grown hg tb) (fun _ _ h => h), ?_, ?_, hl.imp id (fun h => ⟨_, h, hX.size⟩)⟩
  · exact (h8.below hX).of (hg.block g8 (h8.below hX).lt (fun e => by have := (hPa g8 e.symm).2; omega))
  · exact (hb.below hX).of (hg.block tb (hb.below hX).lt (fun e => by have := (hPa tb e.symm).1; omega))
theorem a6o {V0 w2 w3 : World} {tb g8 : Nat} {x : Vn} {M : Int} {d s : Value} {a a2 : Option Addr} {n c2 : Nat} {q : List Int} (hA : ApR V0 w2 tb g8 x M d s a a2 n c2 q) (hPa : ∀ i, g9 a = some i → tb + 1 ≤ i ∧ i < g8) (ht : Turned w2 w3 tb (g9 a2)) (h : g8 ≠ tb) (hV : g8 < V0.heap.size) : VB w3 g8 x :=
  hA.x8.of (ht.block g8 hA.x8.lt h (fun e => by
    rcases hA.lies with h1 | ⟨g, h1, hg⟩
    · rw [h1] at e; have := (hPa g8 e).2; omega
    · rw [h1] at e; cases e; omega))
theorem a6l {w : World} {base : Nat} {a : Option Addr} {n c : Nat} {q : List Int} (h : OwnI w base 3 a (n + 1) c q) : ∀ W : World, (Instr.sliceAt 25 (.slice a (n + 1) c) none (some (.int .i64 n)) none).run Tryz.prog W = .ok (.slice a n c) W := fun W => by
  have h1 := h.reads.cap; have h2 := h.reads.most
  exact a3k a (n + 1) c n (by omega) h1 h2 W
theorem walk_any (tb B : Nat) (hB : B ≤ tb) (d s : Value) (t : VT) : ∀ (v : Vn) (w : World) (pa : Option Addr) (n c : Nat) (p : List Int) (N : Nat), v.tr = t → v.Rs (· < B) w → Blk w tb #[d, .int .i64 N, s] 108 → OwnI w (tb + 1) 3 pa n c p → N ≤ 1000000 → n + t.size ≤ 1000000 →
    Calls Tryz.prog 70 #[v.val, .slice pa n c, .func (.func 71) #[.pointer (some ⟨tb, 0, none⟩)] #[]] w (WP v.tr tb N d s pa n p w) := by
  induction t using Tr.ind with
  | h tx tl ih =>
  intro v w pa n c p N hat hv hb hp hN hn
  obtain ⟨vx, va, m, vc', l⟩ := v
  cases hat
  have hlm : l.length < Tr.size (Tr.mk vx l) := Tr.len_size
  have hN2 : N ≤ 1000000 := hN
  have hmx : ∀ k, mx l k + 1 ≤ Tr.size (Tr.mk vx l) := fun k => mx_lt k
  have hn2 : n + Tr.size (Tr.mk vx l) ≤ 1000000 := hn
  have hml : m ≤ 1000000 := by have := hv.rd.len; dsimp only at this; omega
  have htb := hb.lt
  have hvl := hv.rd
  dsimp only at hvl
  have hcapx := hvl.cap; have hmostx := hvl.most
  have hlx := hvl.len
  have hlim : ∀ k x, l[k]? = some x → Tr.sumk l k + x.size ≤ Tr.sumk l m := fun k x hk => by
    rw [← Tr.sumk_succ hk]
    unfold Tr.sumk
    have hkl := (List.getElem?_eq_some_iff.1 hk).1
    rw [List.take_of_length_le (show l.length ≤ m by omega)]
    have : l.map Tr.size = (l.take (k + 1)).map Tr.size ++ (l.drop (k + 1)).map Tr.size := by rw [← List.map_append, List.take_append_drop]
    rw [this, List.sum_append]
    omega
  have hsz : Tr.size (Tr.mk vx l) = 1 + Tr.sumk l m := Tr.sumk_all hlx
  have hW1 : Below w.heap.size w (w.alloc (.cells #[.int .i64 vx.k, .int .i64 vx.n, .string vx.s, .slice va m vc', .int .i64 vx.f, .int .i64 vx.t] 24)) := i7 _ _
  have hZ : VB (w.alloc (.cells #[.int .i64 vx.k, .int .i64 vx.n, .string vx.s, .slice va m vc', .int .i64 vx.f, .int .i64 vx.t] 24)) w.heap.size ⟨vx, va, m, vc', l⟩ := Blk.new w _ _
  have HV0 := Lib.hid hv; have HV := Lib.hid (hv.below hW1); have HBk := Lib.hid (hb.below hW1); have HP := Lib.hid (hp.below hW1); have HZ := Lib.hid hZ
  have HT := Lib.hid (Turned.of_below hW1 tb (g9 pa))
  have hPL : ∀ i, g9 pa = some i → tb + 1 ≤ i ∧ i < w.heap.size := fun i hi => OwnI.blockLt hp hi
  have HPL := Lib.hid hPL
  have HIH := Lib.hid ih; have HLX := Lib.hid hlx; have HSZ := Lib.hid hsz; have HLIM := Lib.hid hlim
  have hN' : N ≤ 1000000 := hN2
  have HMX := Lib.hid (fun k => Nat.le_trans (Nat.add_le_add_left (hmx k) n) hn2)
  have HDP := Lib.hid (mx_all (x := vx) hlx)
  have hn' : n + (1 + Tr.sumk l m) ≤ 1000000 := by rw [← hsz]; exact hn2
  clear hmx hv hb hp hW1 hZ hvl hlx ih hPL hN hn hN2 hn2 hlim hsz hlm
  unfold Vn.val
  have hcf : ∀ args (W : World), Sem.run Tryz.prog (callFunc 71 args) W = .ok (.enter 71 args) W := fun _ _ => rfl
  go_enter Tryz.func70, Tryz.ntmps70
  go_wp2_with fail
  generalize hWW : (w.alloc (.cells #[.int .i64 vx.k, .int .i64 vx.n, .string vx.s, .slice va m vc', .int .i64 vx.f, .int .i64 vx.t] 24)) = W at HV HBk HP HZ HT ⊢
  have hWs : w.heap.size + 1 = W.heap.size := by rw [← hWW]; simp
  clear hWW
  refine (b4h W tb N d s pa n c HBk.out hN' (by omega)).mono ?_
  rintro e w1 ⟨rfl, hb1, ho1⟩
  have HWS := Lib.hid hWs
  have HB1 := Lib.hid hb1
  have HT1 := Lib.hid (HT.out.trans (Turned.of_only ho1 (g9 pa)) (fun i _ h => h))
  have HP1 := Lib.hid (OwnI.of HP.out (fun i hi => ho1.block i (by have := (HPL.out i hi).1; omega)))
  have HV1 := Lib.hid (HV.out.agree (ho1.kp (fun b (hb : b < B) => by omega)))
  have HZ1 := Lib.hid (ho1.blk HZ.out (by omega))
  have hs1 : w1.heap.size = W.heap.size := ho1.size
  have HS1 := Lib.hid hs1
  clear hb1 ho1 hWs hs1 HV HBk HP HZ HT
  have p1 := HZ1.out.cell 3
  simp at p1
  go_wp2_with fail
  go_loopw [1, 7, 8, 15] (fun s1 s7 s8 i wr => ∃ (k : Nat) (a : Option Addr) (c' : Nat), k ≤ m ∧ i = .int .i64 k ∧ s1 = .slice a n c' ∧ Hid (OwnI wr (tb + 1) 3 a n c' p) ∧ Hid (Blk wr tb #[d, .int .i64 ((max N (n + 1 + mx l k) : Nat) : Int), s] 108) ∧ Hid (Turned w wr tb (g9 pa)) ∧ Hid (g9 a = g9 pa ∨ ∃ g, g9 a = some g ∧ w.heap.size ≤ g)) (fun _ _ _ i _ => m - (intOf i).toNat)
  case atStart => exact ⟨0, pa, c, by omega, rfl, rfl, HP1, by rw [c5s, Nat.add_zero]; exact HB1, HT1, Lib.hid (.inl rfl)⟩
  case round =>
    obtain ⟨k, a, c', hk2, rfl, rfl, HPr, HBr, HTr, HLr⟩ := hrel
    by_cases hlt : k < m
    · have hkp : Kp (· < B) w wr := kpB HTr.out hB (fun g hg => by have := (HPL.out g hg).1; omega)
      obtain ⟨b1, o1, x1, rfl, hb1, hx1, hc1⟩ := c58 (HV0.out.agree hkp).rd hlt
      obtain ⟨x, hv1, hr1, c10, c11, c12, c13, c14, c15⟩ := VAs.out hc1
      have HR1 := Lib.hid hr1; have HV1E := Lib.hid hv1; have HX1 := Lib.hid hx1
      have hmem : x1 ∈ l := List.mem_of_getElem? hx1
      have HMEM := Lib.hid hmem
      have hlimk := HLIM.out k x1 hx1
      have hmk := HMX.out k
      clear hr1 hv1 hx1 hmem hc1 hkp
      go_wp2_with fail
      have hV0 : Below wr.heap.size wr (wr.alloc (.cells #[.int .i64 x.x.k, .int .i64 x.x.n, .string x.x.s, .slice x.a x.m x.c, .int .i64 x.x.f, .int .i64 x.x.t] 24)) := i7 _ _
      have hX8 : VB (wr.alloc (.cells #[.int .i64 x.x.k, .int .i64 x.x.n, .string x.x.s, .slice x.a x.m x.c, .int .i64 x.x.f, .int .i64 x.x.t] 24)) wr.heap.size x := c38 wr x
      have HPv := Lib.hid (HPr.out.below hV0); have HBv := Lib.hid (HBr.out.below hV0); have HX8 := Lib.hid hX8
      have HTv := Lib.hid (HTr.out.trans_below hV0); have HRv := Lib.hid (HR1.out.below hV0)
      have hPa : ∀ i, g9 a = some i → tb + 1 ≤ i ∧ i < wr.heap.size := fun i hi => OwnI.blockLt HPr.out hi
      have HPa := Lib.hid hPa
      have htr := HBr.out.lt
      generalize hV : wr.alloc (.cells #[.int .i64 x.x.k, .int .i64 x.x.n, .string x.x.s, .slice x.a x.m x.c, .int .i64 x.x.f, .int .i64 x.x.t] 24) = V0 at hV0 HPv HBv HX8 HTv HRv hX8 ⊢
      have hVs : wr.heap.size < V0.heap.size := hX8.lt
      clear hV hX8 c10 c11 c12 c13 c14 c15 hPa
      have Kp := Lib.hid (show ∀ V : World, Hid (VB V wr.heap.size x) → V.cell? ⟨wr.heap.size, 0, none⟩ = some (.int .i64 x.x.k) ∧ V.cell? ⟨wr.heap.size, 1, none⟩ = some (.int .i64 x.x.n) ∧ V.cell? ⟨wr.heap.size, 2, none⟩ = some (.string x.x.s) ∧ V.cell? ⟨wr.heap.size, 3, none⟩ = some (.slice x.a x.m x.c) ∧ V.cell? ⟨wr.heap.size, 4, none⟩ = some (.int .i64 x.x.f) ∧ V.cell? ⟨wr.heap.size, 5, none⟩ = some (.int .i64 x.x.t) from
        fun V h => ⟨h.out.cell 0, h.out.cell 1, h.out.cell 2, h.out.cell 3, h.out.cell 4, h.out.cell 5⟩)
      have X1 : Hid (VB V0.drew wr.heap.size x) := HX8.out.below (Below.drew (Below.refl _ _))
      have X2 : Hid (VB (V0.drew.alloc (.cells #[.int .i64 k] 3)) wr.heap.size x) := X1.out.below (i7 _ _)
      have X3 : Hid (VB (V0.alloc (.cells #[.int .i64 k] 3)).drew wr.heap.size x) := (HX8.out.below (i7 _ _)).below (Below.drew (Below.refl _ _))
      have O2 : Hid (OwnI (V0.drew.alloc (.cells #[.int .i64 k] 3)) (tb + 1) 3 a n c' p) := (HPv.out.drew).alloc _
      have O3 : Hid (OwnI (V0.alloc (.cells #[.int .i64 k] 3)).drew (tb + 1) 3 a n c' p) := (HPv.out.alloc _).drew
      have Z2 : Hid ((V0.drew.alloc (.cells #[.int .i64 k] 3)).cell? ((⟨V0.heap.size, 0, none⟩ : Addr).add 0) = some (.int .i64 k)) := a7u V0.drew [.int .i64 k] 3 0 _ rfl
      have Z3 : Hid ((V0.alloc (.cells #[.int .i64 k] 3)).drew.cell? ((⟨V0.heap.size, 0, none⟩ : Addr).add 0) = some (.int .i64 k)) := a7u V0 [.int .i64 k] 3 0 _ rfl
      have hk64 : -9223372036854775808 ≤ (k : Int) ∧ (k : Int) ≤ 9223372036854775807 := by omega
      have hbs : tb + 1 ≤ V0.heap.size := by omega
      have S2 : Hid (tb + 1 ≤ (V0.drew.alloc (.cells #[.int .i64 k] 3)).heap.size) := Lib.hid (by rw [w9]; show tb + 1 ≤ V0.heap.size + 1; omega)
      have S3 : Hid (tb + 1 ≤ (V0.alloc (.cells #[.int .i64 k] 3)).drew.heap.size) := Lib.hid (by show tb + 1 ≤ (V0.alloc _).heap.size; rw [w9]; omega)
      have B2 : Hid (Below V0.heap.size V0 (V0.drew.alloc (.cells #[.int .i64 k] 3))) := (Below.drew (Below.refl _ _)).alloc (Nat.le_refl _) _
      have B3 : Hid (Below V0.heap.size V0 (V0.alloc (.cells #[.int .i64 k] 3)).drew) := Below.drew (i7 _ _)
      have HIC := Lib.hid (show ∀ (w2 : World) (a2 : Option Addr) (c2 : Nat), Hid (ApR V0 w2 tb wr.heap.size x ((max N (n + 1 + mx l k) : Nat) : Int) d s a a2 (n + 1) c2 (p ++ [(k : Int)])) → Calls Tryz.prog 70 #[.agg #[.int .i64 x.x.k, .int .i64 x.x.n, .string x.x.s, .slice x.a x.m x.c, .int .i64 x.x.f, .int .i64 x.x.t], .slice a2 (n + 1) c2, .func (.func 71) #[.pointer (some ⟨tb, 0, none⟩)] #[]] w2 (WP x1 tb (max N (n + 1 + mx l k)) d s a2 (n + 1) (p ++ [(k : Int)]) w2) from
        fun w2 a2 c2 hA => by
          have h := HIH.out x1 HMEM.out x w2 a2 (n + 1) c2 (p ++ [(k : Int)]) (max N (n + 1 + mx l k)) HV1E.out (HRv.out.agree (kpB hA.out.turned hB (fun g hg => by have := (HPa.out g hg).1; omega))) hA.out.blk hA.out.own (by omega) (by omega)
          rw [HV1E.out] at h
          exact h)
      go_region_held_law (fun V => V.cell? ⟨wr.heap.size, 0, none⟩ = some (.int .i64 x.x.k) ∧ V.cell? ⟨wr.heap.size, 1, none⟩ = some (.int .i64 x.x.n) ∧ V.cell? ⟨wr.heap.size, 2, none⟩ = some (.string x.x.s) ∧ V.cell? ⟨wr.heap.size, 3, none⟩ = some (.slice x.a x.m x.c) ∧ V.cell? ⟨wr.heap.size, 4, none⟩ = some (.int .i64 x.x.f) ∧ V.cell? ⟨wr.heap.size, 5, none⟩ = some (.int .i64 x.x.t))
        (with_reducible first | exact Kp.out _ HX8 | exact Kp.out _ X1 | exact Kp.out _ X2 | exact Kp.out _ X3 | exact Kp.out _ XA | exact Kp.out _ XC)
        (first
          | ((first
              | (refine a2i (by rfl) (.tmp 21) (.tmp 23) (by rfl) (tb + 1) (by rfl) O2.out (by rfl) (k : Int) hk64 Z2.out (by omega) S2.out ?_; intro a2 c2 w2 ho2 hb2 hg2 hl2; have HA2 := Lib.hid (b0r B2.out HX8.out HBv.out HPa.out ho2 hg2 hl2))
              | (refine a2i (by rfl) (.tmp 21) (.tmp 23) (by rfl) (tb + 1) (by rfl) O3.out (by rfl) (k : Int) hk64 Z3.out (by omega) S3.out ?_; intro a2 c2 w2 ho2 hb2 hg2 hl2; have HA2 := Lib.hid (b0r B3.out HX8.out HBv.out HPa.out ho2 hg2 hl2))); have XA : Hid (VB w2 wr.heap.size x) := HA2.out.x8; clear ho2 hb2 hg2 hl2)
          | (go_at_call 70; (with_reducible refine (HIC.out w2 a2 c2 HA2).mono ?_); rintro e w3 ⟨a3, c3, rfl, ho3, hb3, ht3, hl3⟩; have XC : Hid (VB w3 wr.heap.size x) := a6o HA2.out HPa.out ht3 (by omega) hVs; have hsl := a6l ho3; have HO3 := Lib.hid ho3; have HB3 := Lib.hid hb3; have HT3 := Lib.hid ht3; have HL3 := Lib.hid hl3; clear ho3 hb3 ht3 hl3))
      go_wp2
      go_roundw
      case rel =>
        refine ⟨k + 1, a3, c3, by omega, by go_num, rfl, ?_, ?_, ?_, ?_⟩
        · have h := OwnI.first HO3.out n (by omega)
          rw [List.take_left' (by rw [HPr.out.len])] at h
          exact h
        · have h := HB3.out
          rw [show max (max N (n + 1 + mx l k)) (n + 1 + x1.depth) = max N (n + 1 + mx l (k + 1)) by rw [c5r HX1.out]; omega] at h
          exact h
        · exact (HTv.out.trans HA2.out.turned (fun i hi e => by
            rcases HLr.out with h | ⟨g, h, hg⟩
            · rw [← h]; exact e
            · rw [h] at e; cases e; omega)).trans HT3.out (fun i hi e => by
            rcases HA2.out.lies with h | ⟨g, h, hg⟩
            · rw [h] at e
              rcases HLr.out with h' | ⟨g, h', hg⟩
              · rw [← h']; exact e
              · rw [h'] at e; cases e; omega
            · rw [h] at e; cases e; have := HTr.out.size; omega)
        · rcases HL3.out with h | ⟨g, h, hg⟩
          · rcases HA2.out.lies with h1 | ⟨g, h1, hg⟩
            · rw [h, h1]; exact HLr.out
            · exact .inr ⟨g, h.trans h1, by have := HTr.out.size; omega⟩
          · exact .inr ⟨g, h, by have := HTr.out.size; have := HA2.out.turned.size; omega⟩
      case measure => simp [intOf]; omega
    · have hkm : k = m := by omega
      subst hkm
      go_wp2
      go_ret
      refine ⟨a, c', rfl, HPr.out, ?_, HTr.out, HLr.out⟩
      have h := HBr.out
      have e : max N (n + Tr.depth (Tr.mk vx l)) = max N (n + 1 + mx l k) := by rw [HDP.out]; omega
      show Blk wr tb #[d, .int .i64 ((max N (n + Tr.depth (Tr.mk vx l)) : Nat) : Int), s] _
      rw [e]
      exact h
end Go.Proofs.YtbbkmijkllgfaaaGreatDoor.td
end
section
namespace Go.Proofs.YtbbkmijkllgfaaaGreatDoor.te
open Go.ChangeShapes Go.WideShapes Go.ChangeAt Go.RowKit
open bs tr
set_option linter.unusedVariables false
def ZP (n : Nat) (w : World) (e : Ending) (w' : World) : Prop := e = .returned (.int .i64 (n : Int)) ∧ Below w.heap.size w w'
set_option maxRecDepth 100000 in
set_option maxHeartbeats 2000000 in
theorem depth_any (a : Vn) (w : World) (ha : a.Rd w) (hsz : a.tr.size ≤ 100000) : Calls Tryz.prog 47 #[a.val] w (ZP a.tr.depth w) := by
  have hW1 : Below w.heap.size w ((w.alloc (.cells #[.int .i64 a.x.k, .int .i64 a.x.n, .string a.x.s, .slice a.a a.m a.c, .int .i64 a.x.f, .int .i64 a.x.t] 24)).alloc (.cells #[.int .i64 0, .int .i64 0, .slice none 0 0] 108)) := ((Below.refl _ _).alloc (Nat.le_refl _) _).alloc (by simp) _
  have hZ : VB ((w.alloc (.cells #[.int .i64 a.x.k, .int .i64 a.x.n, .string a.x.s, .slice a.a a.m a.c, .int .i64 a.x.f, .int .i64 a.x.t] 24)).alloc (.cells #[.int .i64 0, .int .i64 0, .slice none 0 0] 108)) w.heap.size a := (c38 w a).below (i7 _ _)
  have hT : Blk ((w.alloc (.cells #[.int .i64 a.x.k, .int .i64 a.x.n, .string a.x.s, .slice a.a a.m a.c, .int .i64 a.x.f, .int .i64 a.x.t] 24)).alloc (.cells #[.int .i64 0, .int .i64 0, .slice none 0 0] 108)) (w.heap.size + 1) #[.int .i64 ((0 : Nat) : Int), .int .i64 0, .slice none 0 0] 108 := by
    have := Blk.new (w.alloc (.cells #[.int .i64 a.x.k, .int .i64 a.x.n, .string a.x.s, .slice a.a a.m a.c, .int .i64 a.x.f, .int .i64 a.x.t] 24)) #[.int .i64 0, .int .i64 0, .slice none 0 0] 108
    rwa [w9] at this
  have HW := Lib.hid hW1; have HZ := Lib.hid hZ; have HT := Lib.hid hT
  have HA := Lib.hid (ha.rs)
  clear ha hW1 hZ hT
  have hmf : ∀ (fn : Fn) (first cap : Array Value) (w : World), (Instr.makeFunc fn first cap).run Tryz.prog w = .ok (.func fn first cap) w := fun _ _ _ _ => rfl
  unfold Vn.val
  go_enter Tryz.func47, Tryz.ntmps47
  go_upto_region 2 with fail
  generalize hWW : ((w.alloc (.cells #[.int .i64 a.x.k, .int .i64 a.x.n, .string a.x.s, .slice a.a a.m a.c, .int .i64 a.x.f, .int .i64 a.x.t] 24)).alloc (.cells #[.int .i64 0, .int .i64 0, .slice none 0 0] 108)) = W at HW HZ HT ⊢
  clear hWW
  go_wp2_with (refine a76 rfl _ rfl rfl HZ.out ?_)
  refine (td.walk_any (w.heap.size + 1) w.heap.size (by omega) (.int .i64 0) (.slice none 0 0) a.tr a W none 0 0 [] 0 rfl (HA.out.below HW.out) HT.out (OwnI.nil _ _ _) (by omega) (by omega)).mono ?_
  rintro e w2 ⟨a2, c2, rfl, ho2, hb2, ht2, hl2⟩
  have HB := Lib.hid (HW.out.trans (ht2.below HW.out.size (by omega) (fun i h => by cases h)))
  rw [Nat.zero_add, Nat.zero_max] at hb2
  have p0 := hb2.cell 1
  simp at p0
  clear ho2 hb2 ht2 hl2 hmf
  go_wp2
  go_ret
  exact ⟨rfl, HB.out⟩
end Go.Proofs.YtbbkmijkllgfaaaGreatDoor.te
end
section
namespace Go.Proofs.YtbbkmijkllgfaaaGreatDoor.am
open Go.ChangeShapes Go.WideShapes Go.ChangeAt Go.RowKit
open vt
set_option linter.unusedVariables false
def labE (x : Lab) : te.Lab := ⟨x.k, x.n, x.s, x.f, x.t⟩
noncomputable def toE (t : VT) : te.VT := Tr.fold (fun x _ b => tr.Tr.mk (labE x) b) t
theorem b3s (x : Lab) (l : List VT) : toE (.mk x l) = .mk (labE x) (l.map toE) := Tr.fold_mk _ x l
theorem c2n (t : VT) : (toE t).size = t.size := by
  induction t using Tr.ind with
  | h x l ih =>
    rw [b3s, tr.Tr.size_mk, Tr.size_mk, List.map_map]
    congr 2
    exact List.map_congr_left (fun y hy => ih y hy)
section
variable {S : CS} {w : World} (hS : ∀ b o, S b o → b < w.heap.size)
include hS
theorem sl_out {l : List VT} {v : Value} (h : RepP S w v (.sl 6 (l.map tc))) : ∃ a c, v = .slice a l.length c ∧ l.length ≤ c ∧ c ≤ 9223372036854775807 ∧ (a = none → c = 0) ∧
    (l = [] ∨ ∃ b off, a = some ⟨b, off, none⟩ ∧ b < w.heap.size ∧ ∃ V : Nat → Nat → Value, ∀ i y, l[i]? = some y → ∀ j p, (tc y)[j]? = some p → w.cell? ⟨b, off + i * 6 + j, none⟩ = some (V i j) ∧ RepP S w (V i j) p) := by
  obtain ⟨L, hL⟩ : ∃ L, l.map tc = L := ⟨_, rfl⟩
  rw [hL] at h
  cases h with
  | emp a c es hm ha =>
    have : l = [] := by simpa using hL
    subst this
    exact ⟨a, c, rfl, Nat.zero_le _, hm, ha, .inl rfl⟩
  | sl b off n c es L' hlen h0 hc hm hes V hcell hV =>
    subst hL
    have hn : l.length = n := by simpa using hlen
    subst hn
    have at' : ∀ i y, l[i]? = some y → (l.map tc)[i]? = some (tc y) := fun i y h => by rw [List.getElem?_map, h]; rfl
    refine ⟨_, c, rfl, hc, hm, (fun h => by cases h), .inr ⟨b, off, rfl, ?_, V, fun i y hi j p hj => ⟨(hcell i _ j p (at' i y hi) hj).2, hV i _ j p (at' i y hi) hj⟩⟩⟩
    obtain ⟨y, hy⟩ : ∃ y, l[0]? = some y := ⟨_, List.getElem?_eq_getElem h0⟩
    obtain ⟨p, hp⟩ : ∃ p, (tc y)[0]? = some p := ⟨_, List.getElem?_eq_getElem (by rw [b9n]; decide)⟩
    exact hS _ _ (hcell 0 _ 0 p (at' 0 y hy) hp).1
theorem vs_of {l : List VT} {v : Value} (h : RepP S w v (.sl 6 (l.map tc))) (ih : ∀ y ∈ l, ∀ b o (V : Nat → Value), (∀ j p, (tc y)[j]? = some p → w.cell? ⟨b, o + j, none⟩ = some (V j) ∧ RepP S w (V j) p) → te.VA w b o (toE y)) : ∃ a c, v = .slice a l.length c ∧ te.VS w a l.length c (l.map toE) := by
  obtain ⟨a, c, h1, h2, h3, h4, h5⟩ := sl_out hS h
  refine ⟨a, c, h1, ⟨by simp, h2, h3, h4, ?_⟩⟩
  rcases h5 with h5 | ⟨b, off, h6, h7, V, h8⟩
  · left; rw [h5]; rfl
  · right
    refine ⟨b, off, h6, h7, fun i x hx => ?_⟩
    rw [List.getElem?_map] at hx
    obtain ⟨y, hy, rfl⟩ := Option.map_eq_some_iff.1 hx
    exact ih y (List.mem_of_getElem? hy) b (off + i * 6) (V i) (h8 i y hy)
omit hS in
theorem a3g {v : Value} {z : Int} (h : RepP S w v (I z)) : v = .int .i64 z := by cases h; rfl
omit hS in
theorem c3x {v : Value} {s : ByteArray} (h : RepP S w v (Sx s)) : v = .string s := by cases h; rfl
theorem va_of (t : VT) : m7 t → ∀ b o (V : Nat → Value), (∀ j p, (tc t)[j]? = some p → w.cell? ⟨b, o + j, none⟩ = some (V j) ∧ RepP S w (V j) p) → te.VA w b o (toE t) := by
  induction t using Tr.ind with
  | h x l ih =>
    intro ha b o V hc
    obtain ⟨⟨a1, a2, a3, a4⟩, ha⟩ := (Tr.all_mk _ _ _).1 ha
    rw [b5i] at hc
    have c0 := hc 0 _ rfl
    have c1 := hc 1 _ rfl
    have c2 := hc 2 _ rfl
    have c3 := hc 3 _ rfl
    have c4 := hc 4 _ rfl
    have c5 := hc 5 _ rfl
    rw [a3g c0.2] at c0
    rw [a3g c1.2] at c1
    rw [c3x c2.2] at c2
    rw [a3g c4.2] at c4
    rw [a3g c5.2] at c5
    obtain ⟨a, c, h1, h2⟩ := vs_of hS c3.2 (fun y hy => ih y hy (ha y hy))
    rw [h1] at c3
    have := te.VA.intro (v := ⟨labE x, a, l.length, c, l.map toE⟩) (w := w) (b := b) (o := o) ⟨h2, ⟨a1, a2, a3, a4⟩⟩ ⟨c0.1, c3.1, c1.1, c2.1, c4.1, c5.1⟩
    rw [b3s]
    exact this
end
theorem vn_of {γ : Nat → G} {S : CS} {w : World} (hS : ∀ b o, S b o → b < w.heap.size) {t : VT} {v : Value} (ha : m7 t) (h : j5 γ S w v (vT t)) : ∃ n : te.Vn, v = n.val ∧ n.tr = toE t ∧ n.Rd w := by
  obtain ⟨x, l⟩ := t
  obtain ⟨⟨a1, a2, a3, a4⟩, ha⟩ := (Tr.all_mk _ _ _).1 ha
  obtain ⟨cs, rfl, hl, hc⟩ := h
  rw [ta_mk] at hl hc
  obtain ⟨v0, e0, r0⟩ := hc 0 _ rfl
  obtain ⟨v1, e1, r1⟩ := hc 1 _ rfl
  obtain ⟨v2, e2, r2⟩ := hc 2 _ rfl
  obtain ⟨v3, e3, r3⟩ := hc 3 _ rfl
  obtain ⟨v4, e4, r4⟩ := hc 4 _ rfl
  obtain ⟨v5, e5, r5⟩ := hc 5 _ rfl
  obtain rfl := a3g r0
  obtain rfl := a3g r1
  obtain rfl := c3x r2
  obtain rfl := a3g r4
  obtain rfl := a3g r5
  obtain ⟨a, c, rfl, h2⟩ := vs_of hS r3 (fun y hy => va_of hS y (ha y hy))
  refine ⟨⟨labE x, a, l.length, c, l.map toE⟩, ?_, (b3s x l).symm, ⟨h2, ⟨a1, a2, a3, a4⟩⟩⟩
  have : cs = #[.int .i64 x.k, .int .i64 x.n, .string x.s, .slice a l.length c, .int .i64 x.f, .int .i64 x.t] := by
    apply Array.ext_getElem?
    intro i
    have hg : ∀ i : Nat, cs[i]? = cs.toList[i]? := fun i => by rw [Array.getElem?_toList]
    rw [hg]
    match i with
    | 0 => rw [e0]; rfl
    | 1 => rw [e1]; rfl
    | 2 => rw [e2]; rfl
    | 3 => rw [e3]; rfl
    | 4 => rw [e4]; rfl
    | 5 => rw [e5]; rfl
    | i + 6 => rw [List.getElem?_eq_none (by rw [hl]; simp)]; rfl
  rw [this]
  rfl
end Go.Proofs.YtbbkmijkllgfaaaGreatDoor.am
end
section
namespace Go.Proofs.YtbbkmijkllgfaaaGreatDoor.vt
open Go.Proofs.YtbbkmijkllgfaaaGreatDoor.am
set_option linter.unusedVariables false
def I6 (z : Int) : Prop := -9223372036854775808 ≤ z ∧ z ≤ 9223372036854775807
instance (z : Int) : Decidable (I6 z) := by unfold I6; infer_instance
def A6 (x : Lab) : Prop := I6 x.k ∧ I6 x.n ∧ I6 x.f ∧ I6 x.t
noncomputable def dpt (t : VT) : Nat := Tr.fold (fun _ _ b => b.foldl max 0 + 1) t
theorem c3i (x : Lab) (l : List VT) : dpt (.mk x l) = (l.map dpt).foldl max 0 + 1 := Tr.fold_mk _ x l
def c1r (s : ByteArray) (l : List VT) : VT := .mk ⟨36, 0, ⟨#[]⟩, 0, s.size⟩ l
end Go.Proofs.YtbbkmijkllgfaaaGreatDoor.vt
end
section
namespace Go.Proofs.YtbbkmijkllgfaaaGreatDoor.am
open Go.ChangeShapes Go.WideShapes Go.ChangeAt Go.RowKit
open vt
set_option linter.unusedVariables false
theorem b9s (t : VT) : (toE t).depth = dpt t := by
  induction t using Tr.ind with
  | h x l ih =>
    rw [b3s, tr.Tr.depth_mk, c3i, List.map_map]
    congr 2
    exact List.map_congr_left (fun y hy => ih y hy)
theorem b40 (t : VT) (ha : Tr.all A6 t) (hs : t.size ≤ 100000) : Row Tryz.prog 47 [vT t] [] (vI (dpt t : Nat)) [] := by
  refine ⟨⟨_, Tryz.func47, rfl, rfl⟩, a2h (ch := []) fun γ S w vs hm hv => ?_⟩
  match vs, hv with
  | [v0], ⟨h0, _⟩ =>
    obtain ⟨n, rfl, hn, hr⟩ := vn_of hm.inb ha h0
    refine (te.depth_any n w hr (by rw [hn, c2n]; exact hs)).mono ?_
    rintro e w' ⟨rfl, hb⟩
    refine ⟨_, rfl, hb, ?_⟩
    rw [hn, b9s]
    exact .lit _ rfl
end Go.Proofs.YtbbkmijkllgfaaaGreatDoor.am
end
section
namespace Go.Proofs.YtbbkmijkllgfaaaGreatDoor.am
open Go.ChangeShapes Go.WideShapes Go.ChangeAt Go.RowKit
open vt
set_option linter.unusedVariables false
set_option linter.unusedSimpArgs false
theorem td_unrd : td Tryz.prog 68 = some ⟨true, 3, 40, [.nilS, .lit (.int .i64 0), .lit (.int .i64 0)], [(0, 3, true)], .struct⟩ := Eq.trans (by kernel_rfl) (Eq.refl _)
attribute [simp] td_unrd
abbrev sV : ByteArray := ⟨#[118, 97, 114, 32, 97, 58, 32, 105, 110, 116, 59]⟩
abbrev sVa : ByteArray := ⟨#[97]⟩
abbrev sVi : ByteArray := ⟨#[105, 110, 116]⟩
abbrev sVv : ByteArray := ⟨#[118, 97, 114]⟩
theorem a9u {s : ByteArray} {i j k : Nat} {L : List lx.Tk} {x : lx.Tk} (h : lx.nx s i = j) (hj : j < s.size) (hi : i ≤ s.size) (ho : lx.on s j = (x, 0)) (hk : x.t.toNat = k) : lx.app L (lx.toks s i) = lx.app (L ++ [x]) (lx.toks s k) := by
  rw [lx.app_step (by rw [h]; exact hj) hi (by rw [h, ho]), h, ho, ← hk]
theorem c6i : lx.tokens sV = ([⟨3, 0, sVv, 0, 3⟩, ⟨1, 0, sVa, 4, 5⟩, ⟨4, 0, sCol, 5, 6⟩, ⟨3, 0, sVi, 7, 10⟩, ⟨4, 0, sEnd, 10, 11⟩, lx.tkEnd sV], 0, 0) := by
  have b : ∀ i : Nat, (i = 0 ∨ i = 4 ∨ i = 5 ∨ i = 7 ∨ i = 10) → lx.nx sV i = i := fun i hi => lx.nx_stop (by rcases hi with rfl | rfl | rfl | rfl | rfl <;> decide +kernel) (by rcases hi with rfl | rfl | rfl | rfl | rfl <;> decide +kernel)
  have n0 : lx.nx sV 0 = 0 := b 0 (by decide)
  have n3 : lx.nx sV 3 = 4 := by rw [lx.nx_blank (by decide) (by decide +kernel)]; exact b 4 (by decide)
  have n5 : lx.nx sV 5 = 5 := b 5 (by decide)
  have n6 : lx.nx sV 6 = 7 := by rw [lx.nx_blank (by decide) (by decide +kernel)]; exact b 7 (by decide)
  have n10 : lx.nx sV 10 = 10 := b 10 (by decide)
  have h : lx.app [] (lx.toks sV 0) = ([⟨3, 0, sVv, 0, 3⟩, ⟨1, 0, sVa, 4, 5⟩, ⟨4, 0, sCol, 5, 6⟩, ⟨3, 0, sVi, 7, 10⟩, ⟨4, 0, sEnd, 10, 11⟩, lx.tkEnd sV], 0, 0) :=
    (a9u (x := ⟨3, 0, sVv, 0, 3⟩) (k := 3) n0 (by decide) (by decide) (by kernel_rfl) rfl).trans
      ((a9u (x := ⟨1, 0, sVa, 4, 5⟩) (k := 5) n3 (by decide) (by decide) (by kernel_rfl) rfl).trans
      ((a9u (x := ⟨4, 0, sCol, 5, 6⟩) (k := 6) n5 (by decide) (by decide) (by kernel_rfl) rfl).trans
      ((a9u (x := ⟨3, 0, sVi, 7, 10⟩) (k := 10) n6 (by decide) (by decide) (by kernel_rfl) rfl).trans
      ((a9u (x := ⟨4, 0, sEnd, 10, 11⟩) (k := 11) n10 (by decide) (by decide) (by kernel_rfl) rfl).trans
      (lx.app_end (by rw [lx.nx_end (by decide)]; decide))))))
  rw [lx.app_nil] at h
  unfold lx.tokens
  rw [if_neg (by decide), h]
def tsV : List Tok := [⟨3, 0, sVv, 0, 3⟩, ⟨1, 0, sVa, 4, 5⟩, ⟨4, 0, sCol, 5, 6⟩, ⟨3, 0, sVi, 7, 10⟩, ⟨4, 0, sEnd, 10, 11⟩, ⟨5, 0, ⟨#[]⟩, 11, 11⟩]
theorem sv_tok : tokG sV = (tsV, 0, 0) := by
  unfold tokG
  rw [c6i]
  rfl
def tyV : VT := .mk ⟨1, 0, ⟨#[]⟩, 7, 10⟩ []
def ptV : VT := .mk ⟨34, 0, sVa, 4, 10⟩ [tyV]
def dcV : VT := .mk ⟨32, 0, sVa, 0, 11⟩ [tyV]
theorem tyV_eq : tyG tsV (tsV.length + 1) 3 = (tyV, 4, 0) := by
  have h : isK c0i (nxt tsV 3) = true := by decide +kernel
  rw [tyG, if_pos h]
  rfl
theorem b9y : Row Tryz.prog 108 [vR, vFg 109] [rd tsV 3 0] (vT tyV) [some (rd tsV 4 0)] := by
  have h := c2t tsV 3 (by decide) (by decide)
  rw [c49, tyV_eq] at h
  exact b61 tsV (3, 0) 109 (fun _ => (tyV, 4, 0)) (fun _ => h)
theorem b8j : Row Tryz.prog 66 [vR] [rd tsV 1 0] (vT ptV) [some (rd tsV 4 0)] := by
  have p0 := a2g tsV 1 0
  have w1 := c1n tsV (by decide) (1, 0) 1 (by decide)
  have w2 := b34 tsV (by decide) (2, 0) sCol (by decide)
  have w3 := b9y
  have n := b29 tsV (by decide) (4, 0) 1 ⟨34, 0, sVa, 0, 0⟩ [tyV] (fun _ => by decide)
  rw [show KT tsV 1 (1, 0) = (⟨1, 0, sVa, 4, 5⟩, 2, 0) from rfl] at w1
  rw [show WT tsV sCol (2, 0) = (3, 0) from by decide +kernel] at w2
  rw [show NT tsV 1 34 0 sVa [tyV] (4, 0) = (ptV, 4, 0) from rfl] at n
  generalize tsV = ts at *
  unfold ptV tyV at *
  refine d7 Tryz.func66 rfl rfl (Nat.le_of_ble_eq_true rfl) ?_
  repeat' (first | refine b9 ?_ | refine b6 ?_ | refine a6 ?_ | refine b5 ?_ | refine e7 rfl ?_ | refine d9 rfl ?_ | ((first | refine b8 (fun K hK => ?_) | refine d3 e9 (fun K hK => ?_) | refine b7 (cb p0 0 ?_) | refine a8 (db p0 0 ?_) | refine b7 (cb w1 0 ?_) | refine a8 (db w1 0 ?_) | refine b7 (cb w2 0 ?_) | refine a8 (db w2 0 ?_) | refine b7 (cb w3 0 ?_) | refine a8 (db w3 0 ?_) | refine b7 (cb n 0 ?_) | refine a8 (db n 0 ?_) | fail); simp -implicitDefEqProofs) | refine hK _ ?_ | refine hK _ _ (by rfl) ?_ | fail)
  refine d6 (g7 ?_); simp -implicitDefEqProofs [s9, f6, f7] <;> try rfl
theorem b7f : Row Tryz.prog 45 [vR] [rd tsV 0 0] (vT dcV) [some (rd tsV 5 0)] := by
  have p0 := a2g tsV 0 0
  have t1 := b3q tsV (0, 0) ⟨#[114, 101, 99]⟩ (by decide) (by decide +kernel)
  have t2 := b3q tsV (0, 0) ⟨#[99, 111, 110, 115, 116]⟩ (by decide) (by decide +kernel)
  have t3 := b9m tsV (by decide) (0, 0) sVv (by decide) (by decide +kernel)
  have d := b8j
  have w := b34 tsV (by decide) (4, 0) sEnd (by decide)
  have n := b29 tsV (by decide) (5, 0) 0 ⟨32, 0, sVa, 0, 0⟩ [tyV] (fun _ => by decide)
  rw [show WT tsV sEnd (4, 0) = (5, 0) from by decide +kernel] at w
  rw [show NT tsV 0 32 0 sVa [tyV] (5, 0) = (dcV, 5, 0) from rfl] at n
  generalize tsV = ts at *
  unfold ptV dcV tyV at *
  refine d7 Tryz.func45 rfl rfl (Nat.le_of_ble_eq_true rfl) ?_
  repeat' (first | refine b9 ?_ | refine b6 ?_ | refine a6 ?_ | refine b5 ?_ | refine e7 rfl ?_ | refine d9 rfl ?_ | ((first | refine b8 (fun K hK => ?_) | refine d3 e9 (fun K hK => ?_) | refine b7 (cb p0 0 ?_) | refine a8 (db p0 0 ?_) | refine b7 (cb t1 0 ?_) | refine a8 (db t1 0 ?_) | refine b7 (cb t2 0 ?_) | refine a8 (db t2 0 ?_) | refine b7 (cb t3 0 ?_) | refine a8 (db t3 0 ?_) | refine b7 (cb d 0 ?_) | refine a8 (db d 0 ?_) | refine b7 (cb w 0 ?_) | refine a8 (db w 0 ?_) | refine b7 (cb n 0 ?_) | refine a8 (db n 0 ?_) | fail); simp -implicitDefEqProofs) | refine hK _ ?_ | refine hK _ _ (by rfl) ?_ | fail)
  refine d6 (g7 ?_); simp -implicitDefEqProofs [s9, f6, f7] <;> try rfl
def InvV (x : Nat × Nat × List VT) : Prop := x = (1, 0, []) ∨ x = (0, 5, [dcV])
theorem depV : dpt (c1r sV [dcV]) = 3 := by simp [c1r, dcV, tyV, c3i]
theorem b4z (L : List (Nat × Array Value)) (tk : Row Tryz.prog 41 [vS sV] [.lib L] (vTk (tokG sV)) [some (.lib L)]) : Row Tryz.prog 26 [vS sV] [.lib L] (vT3i (c1r sV [dcV], 0, 0)) [some (.lib L)] := by
  rw [sv_tok] at tk
  have nw : Row Tryz.prog 42 [vKs tsV, vI 0] [] (vRd tsV 0 0) [] := b8d tsV 0 (Nat.zero_le _)
  have dep := b40 (c1r sV [dcV]) (by
    refine (Tr.all_mk _ _ _).2 ⟨⟨by decide, by decide, by decide, by decide⟩, fun y hy => ?_⟩
    simp at hy; subst hy
    refine (Tr.all_mk _ _ _).2 ⟨⟨by decide, by decide, by decide, by decide⟩, fun y hy => ?_⟩
    simp at hy; subst hy
    exact (Tr.all_mk _ _ _).2 ⟨⟨by decide, by decide, by decide, by decide⟩, fun y hy => by simp at hy⟩) (by simp [c1r, dcV, tyV, Tr.size_mk])
  rw [depV] at dep
  have h0 : InvV (1, 0, []) := .inl rfl
  have g0 := p7 tsV 0 0
  have n0 := a2c tsV 0 0
  have d0 := b7f
  have g5 := p7 tsV 5 0
  have n5 := a2c tsV 5 0
  rw [show nxt tsV 0 = ⟨3, 0, sVv, 0, 3⟩ from rfl] at n0
  rw [show nxt tsV 5 = ⟨5, 0, ⟨#[]⟩, 11, 11⟩ from rfl] at n5
  unfold InvV at h0
  generalize tsV = ts at *
  unfold c1r at dep ⊢
  refine d7 Tryz.func26 rfl rfl (Nat.le_of_ble_eq_true rfl) ?_
  repeat' (first | refine b9 ?_ | refine b6 ?_ | refine a6 ?_ | refine b5 ?_ | refine e7 rfl ?_ | refine d9 rfl ?_ | ((first | refine b8 (fun K hK => ?_) | refine d3 e9 (fun K hK => ?_) | refine b7 (cb tk 0 ?_) | refine a8 (db tk 0 ?_) | refine b7 (cp nw ?_) | refine a8 (dp nw ?_) | fail); simp -implicitDefEqProofs) | refine hK _ ?_ | refine hK _ _ (by rfl) ?_ | fail)
  refine a2r 44 3 _ 24 6 rfl rfl (show 44 < 46 by decide) ?_
  dsimp only [St.nilc, List.set]
  refine m6 (ι := Nat × Nat × List VT) (fun x => x5 [(2, .v (.c (.ptr 1 0))), (3, vI 0), (4, vI 0), (10, .v (.c (.ptr 2 0))), (11, .v (.c (.ptr 3 0)))] [some (.lib L), some zTb, some (rd ts x.2.1 0), some (.box [.pv (I 36), .pv (I 0), .pv (Sx ⟨#[]⟩), .row 4 6 (x.2.2.map tc), .pv (I 0), .pv (I sV.size)]), some (.row 24 6)]) (fun x => x = (1, 0, []) ∨ x = (0, 5, [dcV])) (fun x => x.1) (1, 0, []) h0 (e8 [0, 1, 39, 44, 46] (by simp -implicitDefEqProofs) (by simp -implicitDefEqProofs) (by decide) rfl (by simp)) (fun Z hI x hx => ?_)
  clear h0 tk nw
  rcases hx with rfl | rfl
  · repeat' (first | refine b9 ?_ | refine b6 ?_ | refine a6 ?_ | refine b5 ?_ | refine e7 rfl ?_ | refine d9 rfl ?_ | ((first | refine b8 (fun K hK => ?_) | refine d3 e9 (fun K hK => ?_) | refine b7 (cb g0 2 ?_) | refine a8 (db g0 2 ?_) | refine b7 (cb n0 2 ?_) | refine a8 (db n0 2 ?_) | refine b7 (cb d0 2 ?_) | refine a8 (db d0 2 ?_) | fail); simp -implicitDefEqProofs) | refine hK _ ?_ | refine hK _ _ (by rfl) ?_ | fail)
    refine ⟨(_, _, _), .inr rfl, (by dsimp only; omega), ?_⟩; rw [hI]; exact e8 [0, 1, 2, 3, 71] (by simp -implicitDefEqProofs) (by simp -implicitDefEqProofs) (by decide) rfl (by simp)
  · repeat' (first | refine b9 ?_ | refine b6 ?_ | refine a6 ?_ | refine b5 ?_ | refine e7 rfl ?_ | refine d9 rfl ?_ | ((first | refine b8 (fun K hK => ?_) | refine d3 e9 (fun K hK => ?_) | refine b7 (cb g5 2 ?_) | refine a8 (db g5 2 ?_) | refine b7 (cb n5 2 ?_) | refine a8 (db n5 2 ?_) | refine b7 (cp dep ?_) | refine a8 (dp dep ?_) | fail); simp -implicitDefEqProofs) | refine hK _ ?_ | refine hK _ _ (by rfl) ?_ | fail)
    refine d6 (g7 ?_); simp -implicitDefEqProofs [s9, f6, f7] <;> try rfl
end Go.Proofs.YtbbkmijkllgfaaaGreatDoor.am
end
section
namespace Go.Proofs
open Go.Shelf
def Tryz.laysC174_ren : Go.Shelf.Ren := ⟨fun | 174 => 144 | 247 => 171 | 245 => 172 | 287 => 179 | 279 => 180 | 280 => 181 | 281 => 182 | 282 => 183 | 321 => 185 | 322 => 186 | 316 => 187 | 171 => 189 | 205 => 188 | 243 => 196 | 246 => 198 | 283 => 200 | 284 => 201 | 285 => 202 | 286 => 203 | 129 => 206 | 317 => 205 | 318 => 207 | 319 => 208 | 320 => 209 | 337 => 211 | 338 => 212 | n => n, fun | 9 => 9 | 3 => 3 | 2 => 2 | 75 => 143 | 85 => 144 | 4 => 4 | 167 => 171 | 5 => 5 | 53 => 172 | 175 => 173 | 46 => 175 | 168 => 176 | 37 => 181 | 0 => 0 | 210 => 184 | 21 => 21 | 127 => 187 | 145 => 190 | 143 => 188 | 171 => 192 | 173 => 195 | 212 => 198 | 51 => 199 | 20 => 20 | 213 => 200 | 232 => 206 | 233 => 207 | 80 => 210 | n => n, fun | 15 => 0 | 16 => 1 | 17 => 2 | 18 => 3 | 19 => 4 | n => n⟩
theorem Tryz.laysC174 : Go.Proofs.LaysC.n174 Tryz.prog Tryz.laysC174_ren := {
  mixed := by kernel_rfl
  f129 := Tryz.func206.trans (congrArg some (by kernel_rfl))
  f171 := Tryz.func189.trans (congrArg some (by kernel_rfl))
  f174 := Tryz.func144.trans (congrArg some (by kernel_rfl))
  f205 := Tryz.func188.trans (congrArg some (by kernel_rfl))
  f243 := Tryz.func196.trans (congrArg some (by kernel_rfl))
  f245 := Tryz.func172.trans (congrArg some (by kernel_rfl))
  f246 := Tryz.func198.trans (congrArg some (by kernel_rfl))
  f247 := Tryz.func171.trans (congrArg some (by kernel_rfl))
  f279 := Tryz.func180.trans (congrArg some (by kernel_rfl))
  f280 := Tryz.func181.trans (congrArg some (by kernel_rfl))
  f281 := Tryz.func182.trans (congrArg some (by kernel_rfl))
  f282 := Tryz.func183.trans (congrArg some (by kernel_rfl))
  f283 := Tryz.func200.trans (congrArg some (by kernel_rfl))
  f284 := Tryz.func201.trans (congrArg some (by kernel_rfl))
  f285 := Tryz.func202.trans (congrArg some (by kernel_rfl))
  f286 := Tryz.func203.trans (congrArg some (by kernel_rfl))
  f287 := Tryz.func179.trans (congrArg some (by kernel_rfl))
  f316 := Tryz.func187.trans (congrArg some (by kernel_rfl))
  f317 := Tryz.func205.trans (congrArg some (by kernel_rfl))
  f318 := Tryz.func207.trans (congrArg some (by kernel_rfl))
  f319 := Tryz.func208.trans (congrArg some (by kernel_rfl))
  f320 := Tryz.func209.trans (congrArg some (by kernel_rfl))
  f321 := Tryz.func185.trans (congrArg some (by kernel_rfl))
  f322 := Tryz.func186.trans (congrArg some (by kernel_rfl))
  f337 := Tryz.func211.trans (congrArg some (by kernel_rfl))
  f338 := Tryz.func212.trans (congrArg some (by kernel_rfl))
  t0 := Tryz.underlying0
  a0 := Tryz.isAgg0
  z0 := Tryz.sizeOf0
  v0 := Tryz.zeroValue0
  t2 := Tryz.underlying2
  a2 := Tryz.isAgg2
  z2 := Tryz.sizeOf2
  v2 := Tryz.zeroValue2
  t3 := Tryz.underlying3
  a3 := Tryz.isAgg3
  z3 := Tryz.sizeOf3
  v3 := Tryz.zeroValue3
  t4 := Tryz.underlying4
  a4 := Tryz.isAgg4
  z4 := Tryz.sizeOf4
  v4 := Tryz.zeroValue4
  t5 := Tryz.underlying5
  a5 := Tryz.isAgg5
  z5 := Tryz.sizeOf5
  v5 := Tryz.zeroValue5
  t9 := Tryz.underlying9
  a9 := Tryz.isAgg9
  z9 := Tryz.sizeOf9
  v9 := Tryz.zeroValue9
  t20 := Tryz.underlying20
  a20 := Tryz.isAgg20
  z20 := Tryz.sizeOf20
  v20 := Tryz.zeroValue20
  t21 := Tryz.underlying21
  a21 := Tryz.isAgg21
  z21 := Tryz.sizeOf21
  v21 := Tryz.zeroValue21
  t37 := Tryz.underlying181
  a37 := Tryz.isAgg181
  z37 := Tryz.sizeOf181
  v37 := Tryz.zeroValue181
  t46 := Tryz.underlying175
  a46 := Tryz.isAgg175
  z46 := Tryz.sizeOf175
  v46 := Tryz.zeroValue175
  t51 := Tryz.underlying199
  a51 := Tryz.isAgg199
  z51 := Tryz.sizeOf199
  v51 := Tryz.zeroValue199
  t53 := Tryz.underlying172
  a53 := Tryz.isAgg172
  z53 := Tryz.sizeOf172
  v53 := Tryz.zeroValue172
  t75 := Tryz.underlying143
  a75 := Tryz.isAgg143
  z75 := Tryz.sizeOf143
  v75 := Tryz.zeroValue143
  t85 := Tryz.underlying144
  a85 := Tryz.isAgg144
  z85 := Tryz.sizeOf144
  v85 := Tryz.zeroValue144
  t127 := Tryz.underlying187
  a127 := Tryz.isAgg187
  z127 := Tryz.sizeOf187
  v127 := Tryz.zeroValue187
  t143 := Tryz.underlying188
  a143 := Tryz.isAgg188
  z143 := Tryz.sizeOf188
  v143 := Tryz.zeroValue188
  t145 := Tryz.underlying190
  a145 := Tryz.isAgg190
  z145 := Tryz.sizeOf190
  v145 := Tryz.zeroValue190
  t167 := Tryz.underlying171
  a167 := Tryz.isAgg171
  z167 := Tryz.sizeOf171
  v167 := Tryz.zeroValue171
  t168 := Tryz.underlying176
  a168 := Tryz.isAgg176
  z168 := Tryz.sizeOf176
  v168 := Tryz.zeroValue176
  t171 := Tryz.underlying192
  a171 := Tryz.isAgg192
  z171 := Tryz.sizeOf192
  v171 := Tryz.zeroValue192
  t173 := Tryz.underlying195
  a173 := Tryz.isAgg195
  z173 := Tryz.sizeOf195
  v173 := Tryz.zeroValue195
  t175 := Tryz.underlying173
  a175 := Tryz.isAgg173
  z175 := Tryz.sizeOf173
  v175 := Tryz.zeroValue173
  t210 := Tryz.underlying184
  a210 := Tryz.isAgg184
  z210 := Tryz.sizeOf184
  v210 := Tryz.zeroValue184
  t212 := Tryz.underlying198
  a212 := Tryz.isAgg198
  z212 := Tryz.sizeOf198
  v212 := Tryz.zeroValue198
  t213 := Tryz.underlying200
  a213 := Tryz.isAgg200
  z213 := Tryz.sizeOf200
  t232 := Tryz.underlying206
  a232 := Tryz.isAgg206
  z232 := Tryz.sizeOf206
  v232 := Tryz.zeroValue206
  t233 := Tryz.underlying207
  a233 := Tryz.isAgg207
  z233 := Tryz.sizeOf207
  v233 := Tryz.zeroValue207
  g15 := by kernel_rfl
  g16 := by kernel_rfl
  g17 := by kernel_rfl
  g18 := by kernel_rfl
  g19 := by kernel_rfl
  t80 := Tryz.underlying210
  a80 := Tryz.isAgg210
  z80 := Tryz.sizeOf210
  v80 := Tryz.zeroValue210
  i0 := by kernel_rfl
  i2 := by kernel_rfl
  i3 := by kernel_rfl
  i4 := by kernel_rfl
  i5 := by kernel_rfl
  i9 := by kernel_rfl
  i20 := by kernel_rfl
  i21 := by kernel_rfl
  i37 := by kernel_rfl
  i46 := by kernel_rfl
  i51 := by kernel_rfl
  i53 := by kernel_rfl
  i75 := by kernel_rfl
  i80 := by kernel_rfl
  i85 := by kernel_rfl
  i127 := by kernel_rfl
  i143 := by kernel_rfl
  i145 := by kernel_rfl
  i167 := by kernel_rfl
  i168 := by kernel_rfl
  i171 := by kernel_rfl
  i173 := by kernel_rfl
  i175 := by kernel_rfl
  i210 := by kernel_rfl
  i212 := by kernel_rfl
  i232 := by kernel_rfl
  i233 := by kernel_rfl
  m15 := by kernel_rfl
  m16 := by kernel_rfl
  m17 := by kernel_rfl
  m18 := by kernel_rfl
  m19 := by kernel_rfl
  c0 := by kernel_rfl
  c2 := by kernel_rfl
  c3 := by kernel_rfl
  c4 := by kernel_rfl
  c5 := by kernel_rfl
  c9 := by kernel_rfl
  c20 := by kernel_rfl
  c21 := by kernel_rfl
  c37 := by kernel_rfl
  c46 := by kernel_rfl
  c51 := by kernel_rfl
  c53 := by kernel_rfl
  c75 := by kernel_rfl
  c80 := by kernel_rfl
  c85 := by kernel_rfl
  c127 := by kernel_rfl
  c143 := by kernel_rfl
  c145 := by kernel_rfl
  c167 := by kernel_rfl
  c168 := by kernel_rfl
  c171 := by kernel_rfl
  c173 := by kernel_rfl
  c175 := by kernel_rfl
  c210 := by kernel_rfl
  c212 := by kernel_rfl
  c213 := by kernel_rfl
  c232 := by kernel_rfl
  c233 := by kernel_rfl }
open Go.RowKit in
theorem Tryz.strconv_ParseInt_10_at64_ok (s : ByteArray) (hmax : s.size ≤ 9223372036854775806) (v : Int) (h : Lib.parseIntB 64 s.data.toList = .ok v) (w : World) :
    Calls Tryz.prog 144 #[.string s, .int .i64 10, .int .i64 64] w fun e w' => e = .returned (.tuple #[.int .i64 v, .nilIface]) ∧ (w' = w ∨ ∃ t, w' = Lib.bytesWorld w 5 t) := Any.strconv_ParseInt_10_at64_ok Tryz.laysC174 s hmax v h w
open Go.RowKit in
theorem Tryz.strconv_ParseInt_10_at64_range_var (s : ByteArray) (hlim : s.size ≤ 281474976710656) (h : Lib.parseIntB 64 s.data.toList = .range) (tp : TypeId) (p : Value) (w : World) (hvar : w.var? Tryz.prog "strconv.ErrRange" = some #[.iface tp p]) :
    Calls Tryz.prog 144 #[.string s, .int .i64 10, .int .i64 64] w fun e w' => ∃ N, e = .returned (.tuple #[.int .i64 (Lib.intSat 64 s.data.toList), .iface 176 (.pointer (some ⟨N, 0, none⟩))]) ∧ w.heap.size ≤ N ∧ w'.heap[N]? = some (.cells #[.string ⟨#[80, 97, 114, 115, 101, 73, 110, 116]⟩, .string s, .iface tp p] 184 (0, 0)) ∧ Below w.heap.size w w' := Any.strconv_ParseInt_10_at64_range_var Tryz.laysC174 s hlim h tp p w hvar
end Go.Proofs
end
